/- The document's Nibble, Number. -/
/- The document's Number, of a text with a sign. -/
/- The document's Number, at every text. -/
import Derived.Test.YtoekdeoekcmpgaaGreatDoorKA
namespace Go.Proofs.YtoekdeoekcmpgaaGreatDoor
open Go.ChangeShapes Go.WideShapes Go.ChangeAt Go.RowKit
set_option linter.unusedVariables false

def numV (o : Option Int) : Value := match o with | some n => .tuple #[.int .i64 n, .bool true] | none => .tuple #[.int .i64 0, .bool false]

theorem drop_next (t : ByteArray) (k : Nat) (h : k < t.size) : t.data.toList.drop k = (t[k]'h) :: t.data.toList.drop (k + 1) := by
  rw [List.drop_eq_getElem_cons (by simpa using h)]
  rfl

set_option maxHeartbeats 2000000 in
set_option maxRecDepth 10000 in
theorem number_pos (s : ByteArray) (hs : s.size ≤ 1000) (h1 : 1 ≤ s.size) (h45 : (s[0]'h1).toNat ≠ 45) (hz : ¬ ((s[0]'h1).toNat = 48 ∧ 1 < s.size)) (w : World) : Calls Tryz.prog 69 #[.string s] w fun e w' =>
    e = .returned (numV (numLoop false 0 s.data.toList)) ∧ Below w.heap.size w w' := by
  have p1 : (0 : Int) < (s.size : Int) := by omega
  have hb0 : ∀ (h : 0 < s.size), ((s[0]'h).toNat : Int) = ((s[0]'h1).toNat : Int) := fun h => rfl
  obtain ⟨q0, hq0⟩ : ∃ q, (s[0]'h1).toNat = q := ⟨_, rfl⟩
  rw [hq0] at h45 hz hb0
  have e45 : ((q0 : Int) == 45) = false := by simp; omega
  have hze : ¬ (0 : Int) = (s.size : Int) := by omega
  by_cases h48 : q0 = 48
  · have e48 : ((q0 : Int) == 48) = true := by simp; omega
    have s1 : ¬ (1 : Int) < (s.size : Int) := by omega
    clear hq0 hz h45
    go_enter Tryz.func69, Tryz.ntmps69
    go_wp2
    go_loopw [4, 5] (fun nv iv wr => ∃ (j m : Nat), j ≤ s.size ∧ iv = .int .i64 j ∧ nv = .int .i64 m ∧ m ≤ 9223372036854775807 ∧ numLoop false 0 s.data.toList = numLoop false m (s.data.toList.drop j) ∧ wr = w) (fun _ iv _ => s.size - (intOf iv).toNat)
    case atStart => exact ⟨0, 0, Nat.zero_le _, rfl, rfl, by omega, by simp, rfl⟩
    case round =>
      obtain ⟨j, m, hj, rfl, rfl, hm, hrel, rfl⟩ := hrel
      by_cases hlt : j < s.size
      · have l1 : (j : Int) < (s.size : Int) := by omega
        have l0 : (0 : Int) ≤ (j : Int) := by omega
        obtain ⟨c, hc⟩ : ∃ c : UInt8, s[j]'hlt = c := ⟨_, rfl⟩
        have hdr := drop_next s j hlt
        rw [hc] at hdr
        rw [hdr, numLoop] at hrel
        obtain ⟨q, hq⟩ : ∃ q, c.toNat = q := ⟨_, rfl⟩
        have hb : ∀ (h : j < s.size), ((s[j]'h).toNat : Int) = (q : Int) := fun h => by rw [hc, hq]
        by_cases c1 : q < 48
        · have i1 : (q : Int) < 48 := by omega
          have hN : numLoop false 0 s.data.toList = none := by rw [hrel, if_neg (by unfold isDig; omega)]
          have HN : Hid (numLoop false 0 s.data.toList = none) := hN
          clear hN hrel hdr
          go_wp2
          go_ret2
          rw [HN.out]
          exact ⟨rfl, Below.refl _ _⟩
        by_cases c2 : 57 < q
        · have i1 : ¬ (q : Int) < 48 := by omega
          have i2 : (57 : Int) < (q : Int) := by omega
          have hN : numLoop false 0 s.data.toList = none := by rw [hrel, if_neg (by unfold isDig; omega)]
          have HN : Hid (numLoop false 0 s.data.toList = none) := hN
          clear hN hrel hdr
          go_wp2
          go_ret2
          rw [HN.out]
          exact ⟨rfl, Below.refl _ _⟩
        have i1 : ¬ (q : Int) < 48 := by omega
        have i2 : ¬ (57 : Int) < (q : Int) := by omega
        obtain ⟨e, he⟩ : ∃ e : Nat, q = 48 + e := ⟨q - 48, by omega⟩
        have hsub : (q : Int) - 48 = (e : Int) := by omega
        have e9 : e ≤ 9 := by omega
        have hdig : isDig c := by unfold isDig; omega
        clear he
        have he256 : (e : Int) % 256 = (e : Int) := by omega
        have hwe : IntKind.u8.wrap (e : Int) = (e : Int) := by have h1 : ∀ x : Int, IntKind.u8.wrap x = x % 256 := (fun x => by simp [IntKind.wrap, IntKind.signed, IntKind.bits]); rw [h1]; omega
        obtain ⟨T, hT⟩ : ∃ T : Nat, (9223372036854775807 - e) / 10 = T := ⟨_, rfl⟩
        have hT1 : (9223372036854775807 - (e : Int)).tdiv 10 = (T : Int) := by rw [Int.tdiv_eq_ediv_of_nonneg (by omega)]; omega
        have hT2 : (9223372036854775807 - (e : Int)) / 10 = (T : Int) := by omega
        have hw1 : IntKind.i64.wrap (9223372036854775807 - (e : Int)) = 9223372036854775807 - (e : Int) := by rw [IntKind.wrap_i64]; omega
        rw [if_pos hdig, numStep] at hrel
        rw [hq, hsub, hT1] at hrel
        simp only [Bool.false_eq_true, if_false] at hrel
        by_cases hov : T < m
        · have i3 : (T : Int) < (m : Int) := by omega
          have hN : numLoop false 0 s.data.toList = none := by rw [hrel, if_pos (by omega)]
          have HN : Hid (numLoop false 0 s.data.toList = none) := hN
          clear hN hrel hdr
          go_wp2
          go_ret2
          rw [HN.out]
          exact ⟨rfl, Below.refl _ _⟩
        · have i3 : ¬ (T : Int) < (m : Int) := by omega
          have hw2 : IntKind.i64.wrap ((m : Int) * 10) = (m : Int) * 10 := by rw [IntKind.wrap_i64]; omega
          have hw3 : IntKind.i64.wrap ((m : Int) * 10 + (e : Int)) = (m : Int) * 10 + (e : Int) := by rw [IntKind.wrap_i64]; omega
          have hN : numLoop false 0 s.data.toList = numLoop false ((m * 10 + e : Nat) : Int) (s.data.toList.drop (j + 1)) := by
            rw [hrel, if_neg (by omega)]
            simp
          have HN : Hid (numLoop false 0 s.data.toList = numLoop false ((m * 10 + e : Nat) : Int) (s.data.toList.drop (j + 1))) := hN
          clear hN hrel hdr
          go_wp2
          go_roundw
          case rel => exact ⟨j + 1, m * 10 + e, by omega, by simp, by simp, by omega, HN.out, trivial⟩
          case measure => simp [intOf]; omega
      · have hje : j = s.size := by omega
        subst hje
        have l1 : ¬ ((s.size : Int) < (s.size : Int)) := by omega
        have hN : numLoop false 0 s.data.toList = some (m : Int) := by rw [hrel, List.drop_of_length_le (by simp)]; rfl
        have HN : Hid (numLoop false 0 s.data.toList = some (m : Int)) := hN
        clear hN hrel
        go_wp2
        go_ret2
        rw [HN.out]
        exact ⟨rfl, Below.refl _ _⟩
  · have e48 : ((q0 : Int) == 48) = false := by simp; omega
    clear hq0 hz h45
    go_enter Tryz.func69, Tryz.ntmps69
    go_wp2
    go_loopw [4, 5] (fun nv iv wr => ∃ (j m : Nat), j ≤ s.size ∧ iv = .int .i64 j ∧ nv = .int .i64 m ∧ m ≤ 9223372036854775807 ∧ numLoop false 0 s.data.toList = numLoop false m (s.data.toList.drop j) ∧ wr = w) (fun _ iv _ => s.size - (intOf iv).toNat)
    case atStart => exact ⟨0, 0, Nat.zero_le _, rfl, rfl, by omega, by simp, rfl⟩
    case round =>
      obtain ⟨j, m, hj, rfl, rfl, hm, hrel, rfl⟩ := hrel
      by_cases hlt : j < s.size
      · have l1 : (j : Int) < (s.size : Int) := by omega
        have l0 : (0 : Int) ≤ (j : Int) := by omega
        obtain ⟨c, hc⟩ : ∃ c : UInt8, s[j]'hlt = c := ⟨_, rfl⟩
        have hdr := drop_next s j hlt
        rw [hc] at hdr
        rw [hdr, numLoop] at hrel
        obtain ⟨q, hq⟩ : ∃ q, c.toNat = q := ⟨_, rfl⟩
        have hb : ∀ (h : j < s.size), ((s[j]'h).toNat : Int) = (q : Int) := fun h => by rw [hc, hq]
        by_cases c1 : q < 48
        · have i1 : (q : Int) < 48 := by omega
          have hN : numLoop false 0 s.data.toList = none := by rw [hrel, if_neg (by unfold isDig; omega)]
          have HN : Hid (numLoop false 0 s.data.toList = none) := hN
          clear hN hrel hdr
          go_wp2
          go_ret2
          rw [HN.out]
          exact ⟨rfl, Below.refl _ _⟩
        by_cases c2 : 57 < q
        · have i1 : ¬ (q : Int) < 48 := by omega
          have i2 : (57 : Int) < (q : Int) := by omega
          have hN : numLoop false 0 s.data.toList = none := by rw [hrel, if_neg (by unfold isDig; omega)]
          have HN : Hid (numLoop false 0 s.data.toList = none) := hN
          clear hN hrel hdr
          go_wp2
          go_ret2
          rw [HN.out]
          exact ⟨rfl, Below.refl _ _⟩
        have i1 : ¬ (q : Int) < 48 := by omega
        have i2 : ¬ (57 : Int) < (q : Int) := by omega
        obtain ⟨e, he⟩ : ∃ e : Nat, q = 48 + e := ⟨q - 48, by omega⟩
        have hsub : (q : Int) - 48 = (e : Int) := by omega
        have e9 : e ≤ 9 := by omega
        have hdig : isDig c := by unfold isDig; omega
        clear he
        have he256 : (e : Int) % 256 = (e : Int) := by omega
        have hwe : IntKind.u8.wrap (e : Int) = (e : Int) := by have h1 : ∀ x : Int, IntKind.u8.wrap x = x % 256 := (fun x => by simp [IntKind.wrap, IntKind.signed, IntKind.bits]); rw [h1]; omega
        obtain ⟨T, hT⟩ : ∃ T : Nat, (9223372036854775807 - e) / 10 = T := ⟨_, rfl⟩
        have hT1 : (9223372036854775807 - (e : Int)).tdiv 10 = (T : Int) := by rw [Int.tdiv_eq_ediv_of_nonneg (by omega)]; omega
        have hT2 : (9223372036854775807 - (e : Int)) / 10 = (T : Int) := by omega
        have hw1 : IntKind.i64.wrap (9223372036854775807 - (e : Int)) = 9223372036854775807 - (e : Int) := by rw [IntKind.wrap_i64]; omega
        rw [if_pos hdig, numStep] at hrel
        rw [hq, hsub, hT1] at hrel
        simp only [Bool.false_eq_true, if_false] at hrel
        by_cases hov : T < m
        · have i3 : (T : Int) < (m : Int) := by omega
          have hN : numLoop false 0 s.data.toList = none := by rw [hrel, if_pos (by omega)]
          have HN : Hid (numLoop false 0 s.data.toList = none) := hN
          clear hN hrel hdr
          go_wp2
          go_ret2
          rw [HN.out]
          exact ⟨rfl, Below.refl _ _⟩
        · have i3 : ¬ (T : Int) < (m : Int) := by omega
          have hw2 : IntKind.i64.wrap ((m : Int) * 10) = (m : Int) * 10 := by rw [IntKind.wrap_i64]; omega
          have hw3 : IntKind.i64.wrap ((m : Int) * 10 + (e : Int)) = (m : Int) * 10 + (e : Int) := by rw [IntKind.wrap_i64]; omega
          have hN : numLoop false 0 s.data.toList = numLoop false ((m * 10 + e : Nat) : Int) (s.data.toList.drop (j + 1)) := by
            rw [hrel, if_neg (by omega)]
            simp
          have HN : Hid (numLoop false 0 s.data.toList = numLoop false ((m * 10 + e : Nat) : Int) (s.data.toList.drop (j + 1))) := hN
          clear hN hrel hdr
          go_wp2
          go_roundw
          case rel => exact ⟨j + 1, m * 10 + e, by omega, by simp, by simp, by omega, HN.out, trivial⟩
          case measure => simp [intOf]; omega
      · have hje : j = s.size := by omega
        subst hje
        have l1 : ¬ ((s.size : Int) < (s.size : Int)) := by omega
        have hN : numLoop false 0 s.data.toList = some (m : Int) := by rw [hrel, List.drop_of_length_le (by simp)]; rfl
        have HN : Hid (numLoop false 0 s.data.toList = some (m : Int)) := hN
        clear hN hrel
        go_wp2
        go_ret2
        rw [HN.out]
        exact ⟨rfl, Below.refl _ _⟩
end Go.Proofs.YtoekdeoekcmpgaaGreatDoor

namespace Go.Proofs.YtoekdeoekcmpgaaGreatDoor
open Go.ChangeShapes Go.WideShapes Go.ChangeAt Go.RowKit
set_option linter.unusedVariables false

set_option maxHeartbeats 2000000 in
set_option maxRecDepth 10000 in
theorem number_neg (s : ByteArray) (hs : s.size ≤ 1000) (h2 : 2 ≤ s.size) (h45 : (s[0]'(by omega)).toNat = 45) (hz : (s[1]'h2).toNat ≠ 48) (w : World) : Calls Tryz.prog 69 #[.string s] w fun e w' =>
    e = .returned (numV (numLoop true 0 s.data.toList.tail)) ∧ Below w.heap.size w w' := by
  have h1 : 1 ≤ s.size := by omega
  have p1 : (0 : Int) < (s.size : Int) := by omega
  have p2 : (1 : Int) < (s.size : Int) := by omega
  have hb0 : ∀ (h : 0 < s.size), ((s[0]'h).toNat : Int) = 45 := fun h => by rw [h45]; rfl
  obtain ⟨q1, hq1⟩ : ∃ q, (s[1]'h2).toNat = q := ⟨_, rfl⟩
  have hb1 : ∀ (h : 1 < s.size), ((s[1]'h).toNat : Int) = (q1 : Int) := fun h => by rw [← hq1]
  rw [hq1] at hz
  have hze : ¬ (1 : Int) = (s.size : Int) := by omega
  have hze2 : ((1 : Int) == (s.size : Int)) = false := by simp; omega
  have e48 : ((q1 : Int) == 48) = false := by simp; omega
  clear hq1 hz h45
  go_enter Tryz.func69, Tryz.ntmps69
  go_wp2
  go_loopw [4, 5] (fun nv iv wr => ∃ (j m : Nat), 1 ≤ j ∧ j ≤ s.size ∧ iv = .int .i64 j ∧ nv = .int .i64 (-(m : Int)) ∧ m ≤ 9223372036854775808 ∧ numLoop true 0 s.data.toList.tail = numLoop true (-(m : Int)) (s.data.toList.drop j) ∧ wr = w) (fun _ iv _ => s.size - (intOf iv).toNat)
  case atStart => exact ⟨1, 0, Nat.le_refl _, h1, rfl, rfl, by omega, by simp, rfl⟩
  case round =>
    obtain ⟨j, m, hj1, hj, rfl, rfl, hm, hrel, rfl⟩ := hrel
    by_cases hlt : j < s.size
    · have l1 : (j : Int) < (s.size : Int) := by omega
      have l0 : (0 : Int) ≤ (j : Int) := by omega
      obtain ⟨c, hc⟩ : ∃ c : UInt8, s[j]'hlt = c := ⟨_, rfl⟩
      have hdr := drop_next s j hlt
      rw [hc] at hdr
      rw [hdr, numLoop] at hrel
      obtain ⟨q, hq⟩ : ∃ q, c.toNat = q := ⟨_, rfl⟩
      have hb : ∀ (h : j < s.size), ((s[j]'h).toNat : Int) = (q : Int) := fun h => by rw [hc, hq]
      by_cases c1 : q < 48
      · have i1 : (q : Int) < 48 := by omega
        have hN : numLoop true 0 s.data.toList.tail = none := by rw [hrel, if_neg (by unfold isDig; omega)]
        have HN : Hid (numLoop true 0 s.data.toList.tail = none) := hN
        clear hN hrel hdr
        go_wp2
        go_ret2
        rw [HN.out]
        exact ⟨rfl, Below.refl _ _⟩
      by_cases c2 : 57 < q
      · have i1 : ¬ (q : Int) < 48 := by omega
        have i2 : (57 : Int) < (q : Int) := by omega
        have hN : numLoop true 0 s.data.toList.tail = none := by rw [hrel, if_neg (by unfold isDig; omega)]
        have HN : Hid (numLoop true 0 s.data.toList.tail = none) := hN
        clear hN hrel hdr
        go_wp2
        go_ret2
        rw [HN.out]
        exact ⟨rfl, Below.refl _ _⟩
      have i1 : ¬ (q : Int) < 48 := by omega
      have i2 : ¬ (57 : Int) < (q : Int) := by omega
      obtain ⟨e, he⟩ : ∃ e : Nat, q = 48 + e := ⟨q - 48, by omega⟩
      have hsub : (q : Int) - 48 = (e : Int) := by omega
      have e9 : e ≤ 9 := by omega
      have hdig : isDig c := by unfold isDig; omega
      clear he
      have he256 : (e : Int) % 256 = (e : Int) := by omega
      have hwe : IntKind.u8.wrap (e : Int) = (e : Int) := by have h1 : ∀ x : Int, IntKind.u8.wrap x = x % 256 := (fun x => by simp [IntKind.wrap, IntKind.signed, IntKind.bits]); rw [h1]; omega
      obtain ⟨T, hT⟩ : ∃ T : Nat, (9223372036854775808 - e) / 10 = T := ⟨_, rfl⟩
      have hT1 : (-9223372036854775808 + (e : Int)).tdiv 10 = -(T : Int) := by rw [tdiv_neg10 _ (by omega)]; omega
      have hw1 : IntKind.i64.wrap (-9223372036854775808 + (e : Int)) = -9223372036854775808 + (e : Int) := by rw [IntKind.wrap_i64]; omega
      rw [if_pos hdig, numStep] at hrel
      rw [hq, hsub, hT1] at hrel
      simp only [if_true] at hrel
      by_cases hov : T < m
      · have i3 : -(m : Int) < -(T : Int) := by omega
        have hN : numLoop true 0 s.data.toList.tail = none := by rw [hrel, if_pos (by omega)]
        have HN : Hid (numLoop true 0 s.data.toList.tail = none) := hN
        clear hN hrel hdr
        go_wp2
        go_ret2
        rw [HN.out]
        exact ⟨rfl, Below.refl _ _⟩
      · have i3 : ¬ -(m : Int) < -(T : Int) := by omega
        have hw2 : IntKind.i64.wrap (-(m : Int) * 10) = -(m : Int) * 10 := by rw [IntKind.wrap_i64]; omega
        have hw3 : IntKind.i64.wrap (-(m : Int) * 10 - (e : Int)) = -(m : Int) * 10 - (e : Int) := by rw [IntKind.wrap_i64]; omega
        have hN : numLoop true 0 s.data.toList.tail = numLoop true (-((m * 10 + e : Nat) : Int)) (s.data.toList.drop (j + 1)) := by
          rw [hrel, if_neg (by omega)]
          simp only
          rw [show -(m : Int) * 10 - (e : Int) = -((m * 10 + e : Nat) : Int) by omega]
        have HN : Hid (numLoop true 0 s.data.toList.tail = numLoop true (-((m * 10 + e : Nat) : Int)) (s.data.toList.drop (j + 1))) := hN
        clear hN hrel hdr
        go_wp2
        go_roundw
        case rel => exact ⟨j + 1, m * 10 + e, by omega, by omega, by simp, by simp; omega, by omega, HN.out, trivial⟩
        case measure => simp [intOf]; omega
    · have hje : j = s.size := by omega
      subst hje
      have l1 : ¬ ((s.size : Int) < (s.size : Int)) := by omega
      have hN : numLoop true 0 s.data.toList.tail = some (-(m : Int)) := by rw [hrel, List.drop_of_length_le (by simp)]; rfl
      have HN : Hid (numLoop true 0 s.data.toList.tail = some (-(m : Int))) := hN
      clear hN hrel
      go_wp2
      go_ret2
      rw [HN.out]
      exact ⟨rfl, Below.refl _ _⟩
end Go.Proofs.YtoekdeoekcmpgaaGreatDoor

namespace Go.Proofs.YtoekdeoekcmpgaaGreatDoor
open Go.ChangeShapes Go.WideShapes Go.ChangeAt Go.RowKit
set_option linter.unusedVariables false

set_option maxHeartbeats 2000000 in
set_option maxRecDepth 10000 in
theorem number_walk (s : ByteArray) (hs : s.size ≤ 1000) (w : World) : Calls Tryz.prog 69 #[.string s] w fun e w' => e = .returned (numV (numR s.data.toList)) ∧ Below w.heap.size w w' := by
  have hl : s.data.toList.length = s.size := by simp
  by_cases h0 : s.size = 0
  · have hN : numR s.data.toList = none := by rw [List.eq_nil_of_length_eq_zero (hl.trans h0)]; rfl
    rw [hN]
    have e0 : s = ⟨#[]⟩ := by cases s with | mk d => simp [ByteArray.size] at h0; simp [h0]
    subst e0
    go_enter Tryz.func69, Tryz.ntmps69
    go_wp2
    go_ret2
    exact ⟨rfl, Below.refl _ _⟩
  have h1 : 1 ≤ s.size := by omega
  have hd0 := drop_next s 0 h1
  rw [List.drop_zero] at hd0
  obtain ⟨c, hc⟩ : ∃ c : UInt8, s[0]'h1 = c := ⟨_, rfl⟩
  rw [hc] at hd0
  have p1 : (0 : Int) < (s.size : Int) := by omega
  by_cases h45 : c = 45
  · by_cases h2 : 2 ≤ s.size
    · have hd1 := drop_next s 1 h2
      obtain ⟨d, hd⟩ : ∃ d : UInt8, s[1]'h2 = d := ⟨_, rfl⟩
      rw [hd] at hd1
      have ht : s.data.toList.tail = d :: s.data.toList.drop 2 := by rw [← List.drop_one]; exact hd1
      by_cases h48 : d = 48
      · have hN : numR s.data.toList = none := by unfold numR; rw [if_pos (by rw [hd0, h45]; rfl), ht]; simp [h48]
        rw [hN]
        have hb0 : ∀ (h : 0 < s.size), ((s[0]'h).toNat : Int) = 45 := fun h => by rw [hc, h45]; rfl
        have hb1 : ∀ (h : 1 < s.size), ((s[1]'h).toNat : Int) = 48 := fun h => by rw [hd, h48]; rfl
        have p2 : (1 : Int) < (s.size : Int) := by omega
        have hze2 : ((1 : Int) == (s.size : Int)) = false := by simp; omega
        clear hN hd0 hd1 ht hc hd
        go_enter Tryz.func69, Tryz.ntmps69
        go_wp2
        go_ret2
        exact ⟨rfl, Below.refl _ _⟩
      · have hN : numR s.data.toList = numLoop true 0 s.data.toList.tail := by unfold numR; rw [if_pos (by rw [hd0, h45]; rfl), ht]; simp only [if_neg h48]
        rw [hN]
        exact number_neg s hs h2 (by rw [hc, h45]; rfl) (fun e => h48 (UInt8.toNat_inj.1 (by rw [hd] at e; exact e))) w
    · have hs1 : s.size = 1 := by omega
      have ht : s.data.toList.drop 1 = [] := List.drop_of_length_le (by omega)
      have hN : numR s.data.toList = none := by unfold numR; rw [if_pos (by rw [hd0, h45]; rfl), ← List.drop_one, ht]
      rw [hN]
      have hb0 : ∀ (h : 0 < s.size), ((s[0]'h).toNat : Int) = 45 := fun h => by rw [hc, h45]; rfl
      have hze2 : ((1 : Int) == (s.size : Int)) = true := by simp; omega
      clear hN hd0 ht hc
      go_enter Tryz.func69, Tryz.ntmps69
      go_wp2
      go_ret2
      exact ⟨rfl, Below.refl _ _⟩
  · have n45 : c.toNat ≠ 45 := fun e => h45 (UInt8.toNat_inj.1 e)
    by_cases hz : c = 48 ∧ 1 < s.size
    · have hN : numR s.data.toList = none := by
        unfold numR
        rw [if_neg (by rw [hd0]; simpa using h45), hd0]
        simp only
        rw [if_pos ⟨hz.1, fun e => by have := congrArg List.length e; rw [List.length_drop, hl] at this; simp at this; omega⟩]
      rw [hN]
      have hb0 : ∀ (h : 0 < s.size), ((s[0]'h).toNat : Int) = 48 := fun h => by rw [hc, hz.1]; rfl
      have p2 : (1 : Int) < (s.size : Int) := by omega
      have hze2 : ((0 : Int) == (s.size : Int)) = false := by simp; omega
      clear hN hd0 hc n45 h45
      go_enter Tryz.func69, Tryz.ntmps69
      go_wp2
      go_ret2
      exact ⟨rfl, Below.refl _ _⟩
    · have hN : numR s.data.toList = numLoop false 0 s.data.toList := by
        unfold numR
        rw [if_neg (by rw [hd0]; simpa using h45), hd0]
        simp only
        rw [if_neg]
        rintro ⟨h1', h2'⟩
        refine hz ⟨h1', ?_⟩
        have : 0 < (s.data.toList.drop (0 + 1)).length := List.length_pos_iff.2 h2'
        rw [List.length_drop, hl] at this
        omega
      rw [hN]
      exact number_pos s hs h1 (by rw [hc]; exact n45) (fun ⟨e1, e2⟩ => hz ⟨UInt8.toNat_inj.1 (by rw [hc] at e1; exact e1), e2⟩) w
end Go.Proofs.YtoekdeoekcmpgaaGreatDoor
