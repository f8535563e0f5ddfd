/- The document's Lower, Nibble, Single, Quote, Blob. -/
import Derived.Test.YtkooijhdjjdigaaDoorKC
namespace Go.Proofs.YtkooijhdjjdigaaDoor
open Go.ChangeShapes Go.WideShapes Go.ChangeAt Go.RowKit
set_option linter.unusedVariables false

def lowB (b : UInt8) : UInt8 := if 65 ≤ b.toNat ∧ b.toNat ≤ 90 then b + 32 else b
def nibR (c : UInt8) : Option Nat := if 48 ≤ c.toNat ∧ c.toNat ≤ 57 then some (c.toNat - 48) else if 97 ≤ c.toNat ∧ c.toNat ≤ 102 then some (c.toNat - 87) else none
def nibI (c : UInt8) : Int := match nibR c with | some a => (a : Int) | none => -1
theorem lowB_nat (c : UInt8) : (lowB c).toNat = if 65 ≤ c.toNat ∧ c.toNat ≤ 90 then c.toNat + 32 else c.toNat := by
  unfold lowB
  split
  · rw [UInt8.toNat_add]; simp; omega
  · rfl
theorem nib_low (c : UInt8) : (nibI (lowB c) < 0) ↔ hexB c = false := by
  unfold nibI nibR hexB
  have := lowB_nat c
  generalize (lowB c).toNat = p at *
  split at this
  · by_cases h1 : 48 ≤ p ∧ p ≤ 57
    · omega
    · rw [if_neg h1]
      by_cases h2 : 97 ≤ p ∧ p ≤ 102
      · rw [if_pos h2]; simp; omega
      · rw [if_neg h2]; simp; omega
  · by_cases h1 : 48 ≤ p ∧ p ≤ 57
    · rw [if_pos h1]; simp; omega
    · rw [if_neg h1]
      by_cases h2 : 97 ≤ p ∧ p ≤ 102
      · rw [if_pos h2]; simp; omega
      · rw [if_neg h2]; simp; omega
theorem nibble_e (c : UInt8) (w : World) : Calls Tryd.prog 67 #[.int .u8 (c.toNat : Int)] w fun e w' => e = .returned (.int .i64 (nibI c)) ∧ w = w' := by
  have hlt := c.toNat_lt
  obtain ⟨q, hq⟩ : ∃ q, c.toNat = q := ⟨_, rfl⟩
  have hn : nibI c = if 48 ≤ q ∧ q ≤ 57 then (q : Int) - 48 else if 97 ≤ q ∧ q ≤ 102 then (q : Int) - 87 else -1 := by
    unfold nibI nibR
    rw [hq]
    by_cases h1 : 48 ≤ q ∧ q ≤ 57
    · simp only [if_pos h1]; omega
    · by_cases h2 : 97 ≤ q ∧ q ≤ 102
      · simp only [if_neg h1, if_pos h2]; omega
      · simp only [if_neg h1, if_neg h2]
  rw [hn, hq]
  rw [hq] at hlt
  clear hn hq
  go_enter Tryd.func67, Tryd.ntmps67
  go_wp2
  all_goals
    go_ret
    refine ⟨?_, rfl⟩
    simp
    try omega
theorem lower_e (c : UInt8) (w : World) : Calls Tryd.prog 68 #[.int .u8 (c.toNat : Int)] w fun e w' => e = .returned (.int .u8 ((lowB c).toNat : Int)) ∧ w = w' := by
  have hlt := c.toNat_lt
  rw [lowB_nat]
  obtain ⟨q, hq⟩ : ∃ q, c.toNat = q := ⟨_, rfl⟩
  rw [hq] at hlt ⊢
  clear hq
  go_enter Tryd.func68, Tryd.ntmps68
  go_wp2
  all_goals
    go_ret
    refine ⟨?_, rfl⟩
    simp
    try omega
/-- Where a text's end is that begins behind j; -1: nowhere. -/
def endI (o : Option Nat) (j : Nat) : Int := match o with | some n => ((j + n : Nat) : Int) | none => -1
theorem endI_map (o : Option Nat) (j k : Nat) : endI (o.map (· + k)) j = endI o (j + k) := by cases o <;> simp [endI]; omega
theorem quo_not {c : UInt8} {r : List UInt8} (h : c.toNat ≠ 39) : quo (c :: r) = (quo r).map (· + 1) := by
  cases r with
  | nil => simp [quo, h]
  | cons d r => rw [quo, if_neg h]
theorem quo_two {c d : UInt8} {r : List UInt8} (h : c.toNat = 39) (h2 : d.toNat = 39) : quo (c :: d :: r) = (quo r).map (· + 2) := by rw [quo, if_pos h, if_pos h2]
theorem quo_end {c : UInt8} {r : List UInt8} (h : c.toNat = 39) (h2 : (r.head?.map UInt8.toNat) ≠ some 39) : quo (c :: r) = some 1 := by
  cases r with
  | nil => rw [quo, if_pos h]
  | cons d r => rw [quo, if_pos h, if_neg (by simpa using h2)]

set_option maxHeartbeats 1000000 in
set_option maxRecDepth 10000 in
theorem quote_e (s : ByteArray) (hs : s.size ≤ 140737488355328) (a : Nat) (ha : a < s.size) (w : World) :
    Calls Tryd.prog 42 #[.string s, .int .i64 (a : Int)] w fun e w' => e = .returned (.int .i64 (endI (quo (s.data.toList.drop (a + 1))) (a + 1))) ∧ w = w' := by
  obtain ⟨R, hR⟩ : ∃ R, endI (quo (s.data.toList.drop (a + 1))) (a + 1) = R := ⟨_, rfl⟩
  rw [hR]
  have HR := hide hR
  have hwa : IntKind.i64.wrap ((a : Int) + 1) = ((a + 1 : Nat) : Int) := by rw [IntKind.wrap_i64]; omega
  clear hR
  go_enter Tryd.func42, Tryd.ntmps42
  go_wp2
  go_loopw [1] (fun iv wr => ∃ j : Nat, j ≤ s.size ∧ iv = .int .i64 (j : Int) ∧ endI (quo (s.data.toList.drop j)) j = R ∧ wr = w) (fun iv _ => s.size - (intOf iv).toNat)
  case atStart => exact ⟨a + 1, by omega, by rfl, HR.out, rfl⟩
  case round =>
    clear hwa
    obtain ⟨j, hj, rfl, hrel, rfl⟩ := hrel
    by_cases hlt : j < s.size
    · have l1 : (j : Int) < (s.size : Int) := by omega
      have l0 : (0 : Int) ≤ (j : Int) := by omega
      have hw1 : IntKind.i64.wrap ((j : Int) + 1) = ((j + 1 : Nat) : Int) := by rw [IntKind.wrap_i64]; omega
      have hw2 : IntKind.i64.wrap ((j : Int) + 2) = ((j + 2 : Nat) : Int) := by rw [IntKind.wrap_i64]; omega
      obtain ⟨c, hc⟩ : ∃ c : UInt8, s[j]'hlt = c := ⟨_, rfl⟩
      have hdr := drop_next s j hlt
      rw [hc] at hdr
      rw [hdr] at hrel
      obtain ⟨q, hq⟩ : ∃ q, c.toNat = q := ⟨_, rfl⟩
      have hb : ∀ (h : j < s.size), ((s[j]'h).toNat : Int) = (q : Int) := fun h => by rw [hc, hq]
      by_cases h39 : q = 39
      · by_cases hlt2 : j + 1 < s.size
        · have m2 : ((j + 1 : Nat) : Int) < (s.size : Int) := by omega
          have m3 : (0 : Int) ≤ ((j + 1 : Nat) : Int) := by omega
          obtain ⟨d, hd⟩ : ∃ d : UInt8, s[j + 1]'hlt2 = d := ⟨_, rfl⟩
          have hdr2 := drop_next s (j + 1) hlt2
          rw [hd] at hdr2
          rw [hdr2] at hrel
          obtain ⟨p, hp⟩ : ∃ p, d.toNat = p := ⟨_, rfl⟩
          have hb2 : ∀ (h : j + 1 < s.size), ((s[j + 1]'h).toNat : Int) = (p : Int) := fun h => by rw [hd, hp]
          by_cases hp39 : p = 39
          · rw [quo_two (by omega) (by omega), endI_map] at hrel
            have HN := hide hrel
            subst hp39 h39
            clear hrel hdr hdr2 hq hc hd hp
            go_wp2
            go_roundw
            case rel => exact ⟨j + 2, by omega, rfl, HN.out, trivial⟩
            case measure => simp [intOf]; omega
          · have e39 : ((p : Int) == 39) = false := by simp; omega
            rw [quo_end (by omega) (by simp; omega)] at hrel
            obtain rfl : ((j + 1 : Nat) : Int) = R := hrel
            subst h39
            clear hdr hdr2 hq hc hd hp
            go_wp2
            go_ret
            exact ⟨rfl, rfl⟩
        · have m2 : ¬ ((j + 1 : Nat) : Int) < (s.size : Int) := by omega
          rw [List.drop_of_length_le (by simp; omega), quo_end (by omega) (by simp)] at hrel
          obtain rfl : ((j + 1 : Nat) : Int) = R := hrel
          subst h39
          clear hdr hq hc
          go_wp2
          go_ret
          exact ⟨rfl, rfl⟩
      · have e39 : ((q : Int) != 39) = true := by simp [bne]; omega
        rw [quo_not (by omega), endI_map] at hrel
        have HN := hide hrel
        clear hrel hdr hq hc
        go_wp2
        go_roundw
        case rel => exact ⟨j + 1, by omega, rfl, HN.out, trivial⟩
        case measure => simp [intOf]; omega
    · have hje : j = s.size := by omega
      have l1 : ¬ (s.size : Int) < (s.size : Int) := by omega
      subst hje
      rw [List.drop_of_length_le (by simp)] at hrel
      obtain rfl : -1 = R := hrel
      go_wp2
      go_ret
      exact ⟨rfl, rfl⟩
set_option maxHeartbeats 1000000 in
set_option maxRecDepth 10000 in
theorem blob_e (s : ByteArray) (hs : s.size ≤ 140737488355328) (a : Nat) (ha : a < s.size) (w : World) :
    Calls Tryd.prog 43 #[.string s, .int .i64 (a : Int)] w fun e w' => e = .returned (.int .i64 (endI (blo false (s.data.toList.drop (a + 1))) (a + 1))) ∧ w = w' := by
  obtain ⟨R, hR⟩ : ∃ R, endI (blo false (s.data.toList.drop (a + 1))) (a + 1) = R := ⟨_, rfl⟩
  rw [hR]
  have HR := hide hR
  have hwa : IntKind.i64.wrap ((a : Int) + 1) = ((a + 1 : Nat) : Int) := by rw [IntKind.wrap_i64]; omega
  clear hR
  go_enter Tryd.func43, Tryd.ntmps43
  go_wp2
  go_loopw [5, 6] (fun nv iv wr => ∃ j n : Nat, j ≤ s.size ∧ n ≤ j ∧ nv = .int .i64 (n : Int) ∧ iv = .int .i64 (j : Int) ∧ endI (blo (decide (n % 2 = 1)) (s.data.toList.drop j)) j = R ∧ wr = w) (fun _ iv _ => s.size - (intOf iv).toNat)
  case atStart => exact ⟨a + 1, 0, by omega, by omega, rfl, by rfl, HR.out, rfl⟩
  case round =>
    clear hwa
    obtain ⟨j, n, hj, hnj, rfl, rfl, hrel, rfl⟩ := hrel
    by_cases hlt : j < s.size
    · have l1 : (j : Int) < (s.size : Int) := by omega
      have l0 : (0 : Int) ≤ (j : Int) := by omega
      have hw1 : IntKind.i64.wrap ((j : Int) + 1) = ((j + 1 : Nat) : Int) := by rw [IntKind.wrap_i64]; omega
      have hw2 : IntKind.i64.wrap ((n : Int) + 1) = ((n + 1 : Nat) : Int) := by rw [IntKind.wrap_i64]; omega
      have htm : (n : Int).tmod 2 = ((n % 2 : Nat) : Int) := by rw [Int.tmod_eq_emod_of_nonneg (by omega)]; omega
      have hw3 : IntKind.i64.wrap ((n % 2 : Nat) : Int) = ((n % 2 : Nat) : Int) := by rw [IntKind.wrap_i64]; omega
      obtain ⟨c, hc⟩ : ∃ c : UInt8, s[j]'hlt = c := ⟨_, rfl⟩
      have hdr := drop_next s j hlt
      rw [hc] at hdr
      rw [hdr, blo] at hrel
      obtain ⟨q, hq⟩ : ∃ q, c.toNat = q := ⟨_, rfl⟩
      have hb : ∀ (h : j < s.size), ((s[j]'h).toNat : Int) = (q : Int) := fun h => by rw [hc, hq]
      rw [hq] at hrel
      by_cases h39 : q = 39
      · rw [if_pos h39] at hrel
        subst h39
        by_cases hod : n % 2 = 1
        · have ho : ((n : Int) % 2 == 1) = true := by simp; omega
          have ho2 : (IntKind.i64.wrap ((n : Int).tmod 2) == 1) = true := by rw [htm, hw3, hod]; rfl
          rw [if_pos (by simpa using hod)] at hrel
          obtain rfl : -1 = R := hrel
          clear hdr hc hq htm hw3 hod
          go_wp2
          go_ret
          exact ⟨rfl, rfl⟩
        · have h0 : n % 2 = 0 := by omega
          have ho : ((n : Int) % 2 == 1) = false := by simp; omega
          have ho2 : (IntKind.i64.wrap ((n : Int).tmod 2) == 1) = false := by rw [htm, hw3, h0]; rfl
          rw [if_neg (by simpa using hod)] at hrel
          obtain rfl : ((j + 1 : Nat) : Int) = R := hrel
          clear hdr hc hq htm hw3 hod h0
          go_wp2
          go_ret
          exact ⟨rfl, rfl⟩
      · have e39 : ((q : Int) == 39) = false := by simp; omega
        rw [if_neg h39] at hrel
        obtain ⟨x, hx⟩ : ∃ x, nibI (lowB c) = x := ⟨_, rfl⟩
        obtain ⟨p, hp⟩ : ∃ p, (lowB c).toNat = p := ⟨_, rfl⟩
        have HL : Hid (∀ V, Calls Tryd.prog 68 #[.int .u8 (q : Int)] V fun e w' => e = .returned (.int .u8 (p : Int)) ∧ V = w') := fun V => by rw [← hq, ← hp]; exact lower_e c V
        have HX : Hid (∀ V, Calls Tryd.prog 67 #[.int .u8 (p : Int)] V fun e w' => e = .returned (.int .i64 x) ∧ V = w') := fun V => by rw [← hx, ← hp]; exact nibble_e (lowB c) V
        have hx2 := nib_low c
        rw [hx] at hx2
        by_cases hh : hexB c = true
        · have hx3 : ¬ x < 0 := by rw [hx2, hh]; simp
          rw [if_pos hh, endI_map] at hrel
          have hpar : (!decide (n % 2 = 1)) = decide ((n + 1) % 2 = 1) := by rw [Bool.eq_iff_iff]; simp; omega
          rw [hpar] at hrel
          have HN := hide hrel
          clear hrel hdr hc hq htm hw3 hx hp hx2 hh hpar
          go_wp2_with (first
            | (go_at_call 68; (with_reducible refine Calls.mono (HL.out _) ?_); rintro e w5 ⟨rfl, rfl⟩)
            | (go_at_call 67; (with_reducible refine Calls.mono (HX.out _) ?_); rintro e w5 ⟨rfl, rfl⟩))
          go_roundw
          case rel => exact ⟨j + 1, n + 1, by omega, by omega, rfl, rfl, HN.out, trivial⟩
          case measure => simp [intOf]; omega
        · rw [Bool.not_eq_true] at hh
          have hx3 : x < 0 := hx2.2 hh
          rw [if_neg (by simp [hh])] at hrel
          obtain rfl : -1 = R := hrel
          clear hdr hc hq htm hw3 hx hp hx2 hh
          go_wp2_with (first
            | (go_at_call 68; (with_reducible refine Calls.mono (HL.out _) ?_); rintro e w5 ⟨rfl, rfl⟩)
            | (go_at_call 67; (with_reducible refine Calls.mono (HX.out _) ?_); rintro e w5 ⟨rfl, rfl⟩))
          go_ret
          exact ⟨rfl, rfl⟩
    · have hje : j = s.size := by omega
      have l1 : ¬ (s.size : Int) < (s.size : Int) := by omega
      subst hje
      rw [List.drop_of_length_le (by simp), blo] at hrel
      obtain rfl : -1 = R := hrel
      go_wp2
      go_ret
      exact ⟨rfl, rfl⟩
set_option maxRecDepth 10000 in
theorem single_e (c : UInt8) (w : World) : Calls Tryd.prog 47 #[.int .u8 (c.toNat : Int)] w fun e w' => e = .returned (.bool (sinB c)) ∧ w = w' := by
  obtain ⟨S, hS⟩ : ∃ S : ByteArray, S = { data := #[40, 41, 44, 59, 46, 42, 43, 45, 47, 37, 61, 60, 62] } := ⟨_, rfl⟩
  have hss : S.size = 13 := by rw [hS]; rfl
  have hR : S.data.toList.contains c = sinB c := by rw [hS]; rfl
  obtain ⟨R, hR2⟩ : ∃ R, sinB c = R := ⟨_, rfl⟩
  rw [hR2] at hR ⊢
  clear hR2
  go_enter Tryd.func47, Tryd.ntmps47
  go_wp2
  rw [← hS]
  clear hS
  go_loopw [4] (fun iv wr => ∃ j : Nat, j ≤ S.size ∧ iv = .int .i64 (j : Int) ∧ (S.data.toList.drop j).contains c = R ∧ wr = w) (fun iv _ => S.size - (intOf iv).toNat)
  case atStart => exact ⟨0, by omega, rfl, hR, rfl⟩
  case round =>
    obtain ⟨j, hj, rfl, hrel, rfl⟩ := hrel
    by_cases hlt : j < S.size
    · have l1 : (j : Int) < (S.size : Int) := by omega
      have l0 : (0 : Int) ≤ (j : Int) := by omega
      have hw1 : IntKind.i64.wrap ((j : Int) + 1) = ((j + 1 : Nat) : Int) := by rw [IntKind.wrap_i64]; omega
      obtain ⟨d, hd⟩ : ∃ d : UInt8, S[j]'hlt = d := ⟨_, rfl⟩
      have hdr := drop_next S j hlt
      rw [hd] at hdr
      rw [hdr, List.contains_cons] at hrel
      have hb : ∀ (h : j < S.size), ((S[j]'h).toNat : Int) = (d.toNat : Int) := fun h => by rw [hd]
      by_cases he : c = d
      · subst he
        obtain rfl : true = R := by simpa using hrel
        clear hrel hdr hd
        have e1 : ((c.toNat : Int) == (c.toNat : Int)) = true := by simp
        go_wp2
        go_ret
        exact ⟨rfl, rfl⟩
      · have e1 : ((d.toNat : Int) == (c.toNat : Int)) = false := beq_eq_false_iff_ne.2 (fun e => he (UInt8.toNat_inj.1 (by simpa using (Int.ofNat_inj.1 e).symm)))
        have hrel2 : (S.data.toList.drop (j + 1)).contains c = R := by
          rw [← hrel]
          simp [he]
        have HN := hide hrel2
        clear hrel hrel2 hdr hd
        go_wp2
        go_roundw
        case rel => exact ⟨j + 1, by omega, rfl, HN.out, trivial⟩
        case measure => simp [intOf]; omega
    · have hje : j = S.size := by omega
      have l1 : ¬ (S.size : Int) < (S.size : Int) := by omega
      subst hje
      rw [List.drop_of_length_le (by simp)] at hrel
      obtain rfl : false = R := by simpa using hrel
      clear hrel
      go_wp2
      go_ret
      exact ⟨rfl, rfl⟩
end Go.Proofs.YtkooijhdjjdigaaDoor
