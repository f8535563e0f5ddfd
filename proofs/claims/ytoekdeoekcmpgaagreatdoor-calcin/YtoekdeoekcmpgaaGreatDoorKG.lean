/- The document's Int, Null, Blank, Digit, Lead. -/
import Derived.Test.YtoekdeoekcmpgaaGreatDoorKF
import Derived.Test.YtoekdeoekcmpgaaGreatDoorRZ
import Derived.Test.YtoekdeoekcmpgaaGreatDoorRP
namespace Go.Proofs.YtoekdeoekcmpgaaGreatDoor
open Go.ChangeShapes Go.WideShapes Go.ChangeAt Go.RowKit
set_option linter.unusedVariables false

theorem rint_walk (n : Int) (w : World) : Calls Tryz.prog 31 #[.int .i64 n] w fun e w' => e = .returned (val 1 n ⟨#[]⟩) ∧ Below w.heap.size w w' := by
  go_enter Tryz.func31, Tryz.ntmps31
  go_wp2
  go_returns
  exact ⟨rfl, by go_grown⟩
theorem rnull_walk (w : World) : Calls Tryz.prog 37 #[] w fun e w' => e = .returned (val 0 0 ⟨#[]⟩) ∧ Below w.heap.size w w' := by
  go_enter Tryz.func37, Tryz.ntmps37
  go_wp2
  go_returns
  exact ⟨rfl, by go_grown⟩

def blankB (c : UInt8) : Bool := blankL.contains c
theorem blankB_fin : ∀ c : Fin 256, blankL.contains (UInt8.ofNat c.val) = (decide (c.val = 32) || decide (c.val = 9) || decide (c.val = 10) || decide (c.val = 13)) := by decide +kernel
theorem blankB_eq (c : UInt8) : blankB c = (decide (c.toNat = 32) || decide (c.toNat = 9) || decide (c.toNat = 10) || decide (c.toNat = 13)) := by
  have := blankB_fin ⟨c.toNat, UInt8.toNat_lt c⟩
  simp only [UInt8.ofNat_toNat] at this
  exact this

theorem rblank_walk (c : UInt8) (w : World) : Calls Tryz.prog 38 #[.int .u8 (c.toNat : Int)] w fun e w' => e = .returned (.bool (blankB c)) ∧ w = w' := by
  rw [blankB_eq]
  generalize c.toNat = q
  by_cases h1 : q = 32
  · subst h1
    go_enter Tryz.func38, Tryz.ntmps38
    go_wp2
    go_ret
    exact ⟨rfl, rfl⟩
  by_cases h2 : q = 9
  · subst h2
    go_enter Tryz.func38, Tryz.ntmps38
    go_wp2
    go_ret
    exact ⟨rfl, rfl⟩
  by_cases h3 : q = 10
  · subst h3
    go_enter Tryz.func38, Tryz.ntmps38
    go_wp2
    go_ret
    exact ⟨rfl, rfl⟩
  by_cases h4 : q = 13
  · subst h4
    go_enter Tryz.func38, Tryz.ntmps38
    go_wp2
    go_ret
    exact ⟨rfl, rfl⟩
  simp only [h1, h2, h3, h4, decide_false, Bool.or_false]
  have e1 : ((q : Int) == 32) = false := by simp; omega
  have e2 : ((q : Int) == 9) = false := by simp; omega
  have e3 : ((q : Int) == 10) = false := by simp; omega
  have e4 : ((q : Int) == 13) = false := by simp; omega
  clear h1 h2 h3 h4
  go_enter Tryz.func38, Tryz.ntmps38
  go_wp2
  go_ret
  exact ⟨rfl, rfl⟩

theorem rdigit_walk (c : UInt8) (w : World) : Calls Tryz.prog 68 #[.int .u8 (c.toNat : Int)] w fun e w' => e = .returned (.bool (digB c)) ∧ w = w' := by
  rw [show digB c = (decide (48 ≤ c.toNat) && decide (c.toNat ≤ 57)) by rw [digB_eq, Bool.eq_iff_iff, decide_eq_true_iff]; simp [isDig]]
  generalize c.toNat = q
  by_cases h1 : 48 ≤ q
  · have i1 : (48 : Int) ≤ (q : Int) := by omega
    by_cases h2 : q ≤ 57
    · have i2 : (q : Int) ≤ 57 := by omega
      simp only [h1, h2, decide_true, Bool.and_self]
      go_enter Tryz.func68, Tryz.ntmps68
      go_wp2
      go_ret
      exact ⟨rfl, rfl⟩
    · have i2 : ¬ (q : Int) ≤ 57 := by omega
      simp only [h1, h2, decide_false, Bool.and_false]
      go_enter Tryz.func68, Tryz.ntmps68
      go_wp2
      go_ret
      exact ⟨rfl, rfl⟩
  · have i1 : ¬ (48 : Int) ≤ (q : Int) := by omega
    simp only [h1, decide_false, Bool.false_and]
    go_enter Tryz.func68, Tryz.ntmps68
    go_wp2
    go_ret
    exact ⟨rfl, rfl⟩

/-- How long the number at the beginning is. -/
def leadN (s : List UInt8) : Nat := if digs s = [] then 0 else (sgn s).length + (digs s).length

theorem takeWhile_at (l : List UInt8) : ∀ (j : Nat), (∀ i, i < j → ∀ c, l[i]? = some c → digB c = true) → (∀ c, l[j]? = some c → digB c = false) → j ≤ l.length → (l.takeWhile digB).length = j := by
  induction l with
  | nil => intro j _ _ h; simp at h; simp [h]
  | cons a r ih =>
    intro j h1 h2 h3
    rw [List.takeWhile_cons]
    cases j with
    | zero => rw [if_neg (by rw [h2 a (by simp)]; simp)]; rfl
    | succ j =>
      rw [if_pos (h1 0 (by omega) a (by simp))]
      rw [List.length_cons, ih j (fun i hi c hc => h1 (i + 1) (by omega) c (by simpa using hc)) (fun c hc => h2 c (by simpa using hc)) (by simpa using h3)]


theorem lead_at (s : ByteArray) (p j : Nat) (hp : (sgn s.data.toList).length = p) (hj : p + j ≤ s.size) (h1 : ∀ i, i < j → ∀ (h : p + i < s.size), digB (s[p + i]'h) = true) (h2 : ∀ (h : p + j < s.size), digB (s[p + j]'h) = false) :
    (leadN s.data.toList : Int) = if j = 0 then 0 else ((p + j : Nat) : Int) := by
  have hl : s.data.toList.length = s.size := by simp
  have hu : uns s.data.toList = s.data.toList.drop p := by unfold uns; rw [hp]
  have hat : ∀ i, ∀ c, (s.data.toList.drop p)[i]? = some c → ∃ h : p + i < s.size, s[p + i]'h = c := by
    intro i c hc
    rw [List.getElem?_drop] at hc
    have hlt : p + i < s.size := by rw [← hl]; exact (List.getElem?_eq_some_iff.1 hc).1
    refine ⟨hlt, ?_⟩
    have : s.data.toList[p + i]? = some (s[p + i]'hlt) := by
      rw [Array.getElem?_toList]
      exact Array.getElem?_eq_getElem (by simpa using hlt)
    rw [this] at hc
    exact Option.some.inj hc
  have hlen : (digs s.data.toList).length = j := by
    unfold digs
    rw [hu]
    refine takeWhile_at _ j (fun i hi c hc => ?_) (fun c hc => ?_) (by rw [List.length_drop, hl]; omega)
    · obtain ⟨h, e⟩ := hat i c hc; rw [← e]; exact h1 i hi h
    · obtain ⟨h, e⟩ := hat j c hc; rw [← e]; exact h2 h
  unfold leadN
  rw [hp, hlen]
  by_cases h0 : j = 0
  · rw [if_pos h0, if_pos (List.length_eq_zero_iff.1 (hlen.trans h0))]; rfl
  · rw [if_neg h0, if_neg (fun e => h0 (by rw [← hlen, e]; rfl))]

set_option maxHeartbeats 1000000 in
set_option maxRecDepth 10000 in
theorem rlead_empty (s : ByteArray) (hs : s.size ≤ 1000) (h0 : s.size = 0) (hp : (sgn s.data.toList).length = 0) (w : World) : Calls Tryz.prog 39 #[.string s] w fun e w' => e = .returned (.int .i64 (leadN s.data.toList)) ∧ w = w' := by
  have p0 : ¬ (0 : Int) < (s.size : Int) := by omega

  have HP : Hid ((sgn s.data.toList).length = 0) := hp
  clear hp
  go_enter Tryz.func39, Tryz.ntmps39
  go_wp2
  go_loopw [4] (fun iv wr => ∃ (j : Nat), 0 + j ≤ s.size ∧ iv = .int .i64 ((0 + j : Nat) : Int) ∧ (∀ i, i < j → ∀ (h : 0 + i < s.size), digB (s[0 + i]'h) = true) ∧ wr = w) (fun iv _ => s.size - (intOf iv).toNat)
  case atStart => exact ⟨0, by omega, rfl, fun i hi => by omega, rfl⟩
  case round =>
    obtain ⟨j, hj, rfl, hdig, rfl⟩ := hrel
    have HD : Hid (∀ i, i < j → ∀ (h : 0 + i < s.size), digB (s[0 + i]'h) = true) := hdig
    clear hdig
    try clear hb0
    obtain ⟨x, hx⟩ : ∃ x, 0 + j = x := ⟨_, rfl⟩
    by_cases hlt : x < s.size
    · exact absurd hlt (by omega)
    · have l1 : ¬ (x : Int) < (s.size : Int) := by omega
      have hL : (leadN s.data.toList : Int) = if j = 0 then 0 else (x : Int) := by
        subst hx
        exact lead_at s 0 j HP.out (by omega) HD.out (fun h => by omega)
      have HL : Hid ((leadN s.data.toList : Int) = if j = 0 then 0 else (x : Int)) := hL
      rw [hx]
      clear hL
      by_cases hj0 : j = 0
      · obtain rfl : x = 0 := by omega
        clear hx
        go_wp2
        go_ret
        rw [HL.out, if_pos hj0]
        exact ⟨rfl, rfl⟩
      · exact absurd (show j = 0 by omega) hj0

set_option maxHeartbeats 1000000 in
set_option maxRecDepth 10000 in
theorem rlead_plus (s : ByteArray) (hs : s.size ≤ 1000) (h0 : 1 ≤ s.size) (q : Nat) (hq : ∀ (h : 0 < s.size), (s[0]'h).toNat = q) (hqq : q = 43) (hp : (sgn s.data.toList).length = 1) (w : World) : Calls Tryz.prog 39 #[.string s] w fun e w' => e = .returned (.int .i64 (leadN s.data.toList)) ∧ w = w' := by
  have p0 : (0 : Int) < (s.size : Int) := by omega
  have hb0 : ∀ (h : 0 < s.size), ((s[0]'h).toNat : Int) = (q : Int) := fun h => by rw [hq h]
  clear hq
  have e1 : ((q : Int) == 43) = true := by simp; omega
  clear hqq

  have HP : Hid ((sgn s.data.toList).length = 1) := hp
  clear hp
  go_enter Tryz.func39, Tryz.ntmps39
  go_wp2
  go_loopw [4] (fun iv wr => ∃ (j : Nat), 1 + j ≤ s.size ∧ iv = .int .i64 ((1 + j : Nat) : Int) ∧ (∀ i, i < j → ∀ (h : 1 + i < s.size), digB (s[1 + i]'h) = true) ∧ wr = w) (fun iv _ => s.size - (intOf iv).toNat)
  case atStart => exact ⟨0, by omega, rfl, fun i hi => by omega, rfl⟩
  case round =>
    obtain ⟨j, hj, rfl, hdig, rfl⟩ := hrel
    have HD : Hid (∀ i, i < j → ∀ (h : 1 + i < s.size), digB (s[1 + i]'h) = true) := hdig
    clear hdig
    try clear hb0
    obtain ⟨x, hx⟩ : ∃ x, 1 + j = x := ⟨_, rfl⟩
    by_cases hlt : x < s.size
    · have l1 : (x : Int) < (s.size : Int) := by omega
      have l0 : (0 : Int) ≤ (x : Int) := by omega
      obtain ⟨c, hc⟩ : ∃ c : UInt8, s[x]'hlt = c := ⟨_, rfl⟩
      have hb : ∀ (h : x < s.size), ((s[x]'h).toNat : Int) = (c.toNat : Int) := fun h => by rw [hc]
      have HC : Hid (s[x]'hlt = c) := hc
      have hw1 : IntKind.i64.wrap ((x : Int) + 1) = (x : Int) + 1 := by rw [IntKind.wrap_i64]; omega
      have HX : Hid (1 + j = x) := hx
      rw [hx]
      clear hc hx hj
      by_cases hd : digB c = true
      · have HF : Hid (∀ V, Calls Tryz.prog 68 #[.int .u8 (c.toNat : Int)] V fun e w' => e = .returned (.bool true) ∧ V = w') := fun V => by have := rdigit_walk c V; rw [hd] at this; exact this
        have HDd : Hid (digB c = true) := hd
        clear hd
        go_wp2_with (first
          | (go_at_call 68; with_reducible refine Calls.mono (HF.out _) ?_; rintro e w1 ⟨rfl, rfl⟩))
        go_roundw
        case rel =>
          have hx := HX.out
          refine ⟨j + 1, by omega, by go_num, fun i hi h => ?_, by first | rfl | trivial⟩
          by_cases hij : i < j
          · exact HD.out i hij h
          · obtain rfl : i = j := by omega
            have := HC.out
            subst hx
            rw [this]; exact HDd.out
        case measure => (simp [intOf]) <;> omega
      · have hd' : digB c = false := by simpa using hd
        have HF : Hid (∀ V, Calls Tryz.prog 68 #[.int .u8 (c.toNat : Int)] V fun e w' => e = .returned (.bool false) ∧ V = w') := fun V => by have := rdigit_walk c V; rw [hd'] at this; exact this
        have hL : (leadN s.data.toList : Int) = if j = 0 then 0 else (x : Int) := by
          have hx := HX.out
          subst hx
          exact lead_at s 1 j HP.out (by omega) HD.out (fun h => by rw [HC.out]; exact hd')
        have HL : Hid ((leadN s.data.toList : Int) = if j = 0 then 0 else (x : Int)) := hL
        have hxx := HX.out
        clear hd hd' hL
        by_cases hj0 : j = 0
        · obtain rfl : x = 1 := by omega
          clear hxx
          go_wp2_with (first
            | (go_at_call 68; with_reducible refine Calls.mono (HF.out _) ?_; rintro e w1 ⟨rfl, rfl⟩))
          go_ret
          rw [HL.out, if_pos hj0]
          exact ⟨rfl, rfl⟩
        · have hx0 : ¬ (x : Int) = 1 := by omega
          have hx1 : ((x : Int) == 1) = false := by simp; omega
          go_wp2_with (first
            | (go_at_call 68; with_reducible refine Calls.mono (HF.out _) ?_; rintro e w1 ⟨rfl, rfl⟩))
          go_ret
          rw [HL.out, if_neg hj0]
          exact ⟨rfl, rfl⟩
    · have l1 : ¬ (x : Int) < (s.size : Int) := by omega
      have hL : (leadN s.data.toList : Int) = if j = 0 then 0 else (x : Int) := by
        subst hx
        exact lead_at s 1 j HP.out (by omega) HD.out (fun h => by omega)
      have HL : Hid ((leadN s.data.toList : Int) = if j = 0 then 0 else (x : Int)) := hL
      rw [hx]
      clear hL
      by_cases hj0 : j = 0
      · obtain rfl : x = 1 := by omega
        clear hx
        go_wp2
        go_ret
        rw [HL.out, if_pos hj0]
        exact ⟨rfl, rfl⟩
      · have hx0 : ¬ (x : Int) = 1 := by omega
        have hx1 : ((x : Int) == 1) = false := by simp; omega
        clear hx
        go_wp2
        go_ret
        rw [HL.out, if_neg hj0]
        exact ⟨rfl, rfl⟩

set_option maxHeartbeats 1000000 in
set_option maxRecDepth 10000 in
theorem rlead_minus (s : ByteArray) (hs : s.size ≤ 1000) (h0 : 1 ≤ s.size) (q : Nat) (hq : ∀ (h : 0 < s.size), (s[0]'h).toNat = q) (hqq : q = 45) (hp : (sgn s.data.toList).length = 1) (w : World) : Calls Tryz.prog 39 #[.string s] w fun e w' => e = .returned (.int .i64 (leadN s.data.toList)) ∧ w = w' := by
  have p0 : (0 : Int) < (s.size : Int) := by omega
  have hb0 : ∀ (h : 0 < s.size), ((s[0]'h).toNat : Int) = (q : Int) := fun h => by rw [hq h]
  clear hq
  have e1 : ((q : Int) == 43) = false := by simp; omega
  have e2 : ((q : Int) == 45) = true := by simp; omega
  clear hqq

  have HP : Hid ((sgn s.data.toList).length = 1) := hp
  clear hp
  go_enter Tryz.func39, Tryz.ntmps39
  go_wp2
  go_loopw [4] (fun iv wr => ∃ (j : Nat), 1 + j ≤ s.size ∧ iv = .int .i64 ((1 + j : Nat) : Int) ∧ (∀ i, i < j → ∀ (h : 1 + i < s.size), digB (s[1 + i]'h) = true) ∧ wr = w) (fun iv _ => s.size - (intOf iv).toNat)
  case atStart => exact ⟨0, by omega, rfl, fun i hi => by omega, rfl⟩
  case round =>
    obtain ⟨j, hj, rfl, hdig, rfl⟩ := hrel
    have HD : Hid (∀ i, i < j → ∀ (h : 1 + i < s.size), digB (s[1 + i]'h) = true) := hdig
    clear hdig
    try clear hb0
    obtain ⟨x, hx⟩ : ∃ x, 1 + j = x := ⟨_, rfl⟩
    by_cases hlt : x < s.size
    · have l1 : (x : Int) < (s.size : Int) := by omega
      have l0 : (0 : Int) ≤ (x : Int) := by omega
      obtain ⟨c, hc⟩ : ∃ c : UInt8, s[x]'hlt = c := ⟨_, rfl⟩
      have hb : ∀ (h : x < s.size), ((s[x]'h).toNat : Int) = (c.toNat : Int) := fun h => by rw [hc]
      have HC : Hid (s[x]'hlt = c) := hc
      have hw1 : IntKind.i64.wrap ((x : Int) + 1) = (x : Int) + 1 := by rw [IntKind.wrap_i64]; omega
      have HX : Hid (1 + j = x) := hx
      rw [hx]
      clear hc hx hj
      by_cases hd : digB c = true
      · have HF : Hid (∀ V, Calls Tryz.prog 68 #[.int .u8 (c.toNat : Int)] V fun e w' => e = .returned (.bool true) ∧ V = w') := fun V => by have := rdigit_walk c V; rw [hd] at this; exact this
        have HDd : Hid (digB c = true) := hd
        clear hd
        go_wp2_with (first
          | (go_at_call 68; with_reducible refine Calls.mono (HF.out _) ?_; rintro e w1 ⟨rfl, rfl⟩))
        go_roundw
        case rel =>
          have hx := HX.out
          refine ⟨j + 1, by omega, by go_num, fun i hi h => ?_, by first | rfl | trivial⟩
          by_cases hij : i < j
          · exact HD.out i hij h
          · obtain rfl : i = j := by omega
            have := HC.out
            subst hx
            rw [this]; exact HDd.out
        case measure => (simp [intOf]) <;> omega
      · have hd' : digB c = false := by simpa using hd
        have HF : Hid (∀ V, Calls Tryz.prog 68 #[.int .u8 (c.toNat : Int)] V fun e w' => e = .returned (.bool false) ∧ V = w') := fun V => by have := rdigit_walk c V; rw [hd'] at this; exact this
        have hL : (leadN s.data.toList : Int) = if j = 0 then 0 else (x : Int) := by
          have hx := HX.out
          subst hx
          exact lead_at s 1 j HP.out (by omega) HD.out (fun h => by rw [HC.out]; exact hd')
        have HL : Hid ((leadN s.data.toList : Int) = if j = 0 then 0 else (x : Int)) := hL
        have hxx := HX.out
        clear hd hd' hL
        by_cases hj0 : j = 0
        · obtain rfl : x = 1 := by omega
          clear hxx
          go_wp2_with (first
            | (go_at_call 68; with_reducible refine Calls.mono (HF.out _) ?_; rintro e w1 ⟨rfl, rfl⟩))
          go_ret
          rw [HL.out, if_pos hj0]
          exact ⟨rfl, rfl⟩
        · have hx0 : ¬ (x : Int) = 1 := by omega
          have hx1 : ((x : Int) == 1) = false := by simp; omega
          go_wp2_with (first
            | (go_at_call 68; with_reducible refine Calls.mono (HF.out _) ?_; rintro e w1 ⟨rfl, rfl⟩))
          go_ret
          rw [HL.out, if_neg hj0]
          exact ⟨rfl, rfl⟩
    · have l1 : ¬ (x : Int) < (s.size : Int) := by omega
      have hL : (leadN s.data.toList : Int) = if j = 0 then 0 else (x : Int) := by
        subst hx
        exact lead_at s 1 j HP.out (by omega) HD.out (fun h => by omega)
      have HL : Hid ((leadN s.data.toList : Int) = if j = 0 then 0 else (x : Int)) := hL
      rw [hx]
      clear hL
      by_cases hj0 : j = 0
      · obtain rfl : x = 1 := by omega
        clear hx
        go_wp2
        go_ret
        rw [HL.out, if_pos hj0]
        exact ⟨rfl, rfl⟩
      · have hx0 : ¬ (x : Int) = 1 := by omega
        have hx1 : ((x : Int) == 1) = false := by simp; omega
        clear hx
        go_wp2
        go_ret
        rw [HL.out, if_neg hj0]
        exact ⟨rfl, rfl⟩

set_option maxHeartbeats 1000000 in
set_option maxRecDepth 10000 in
theorem rlead_plain (s : ByteArray) (hs : s.size ≤ 1000) (h0 : 1 ≤ s.size) (q : Nat) (hq : ∀ (h : 0 < s.size), (s[0]'h).toNat = q) (hqq : q ≠ 43) (hqr : q ≠ 45) (hp : (sgn s.data.toList).length = 0) (w : World) : Calls Tryz.prog 39 #[.string s] w fun e w' => e = .returned (.int .i64 (leadN s.data.toList)) ∧ w = w' := by
  have p0 : (0 : Int) < (s.size : Int) := by omega
  have hb0 : ∀ (h : 0 < s.size), ((s[0]'h).toNat : Int) = (q : Int) := fun h => by rw [hq h]
  clear hq
  have e1 : ((q : Int) == 43) = false := by simp; omega
  have e2 : ((q : Int) == 45) = false := by simp; omega
  clear hqq hqr

  have HP : Hid ((sgn s.data.toList).length = 0) := hp
  clear hp
  go_enter Tryz.func39, Tryz.ntmps39
  go_wp2
  go_loopw [4] (fun iv wr => ∃ (j : Nat), 0 + j ≤ s.size ∧ iv = .int .i64 ((0 + j : Nat) : Int) ∧ (∀ i, i < j → ∀ (h : 0 + i < s.size), digB (s[0 + i]'h) = true) ∧ wr = w) (fun iv _ => s.size - (intOf iv).toNat)
  case atStart => exact ⟨0, by omega, rfl, fun i hi => by omega, rfl⟩
  case round =>
    obtain ⟨j, hj, rfl, hdig, rfl⟩ := hrel
    have HD : Hid (∀ i, i < j → ∀ (h : 0 + i < s.size), digB (s[0 + i]'h) = true) := hdig
    clear hdig
    try clear hb0
    obtain ⟨x, hx⟩ : ∃ x, 0 + j = x := ⟨_, rfl⟩
    by_cases hlt : x < s.size
    · have l1 : (x : Int) < (s.size : Int) := by omega
      have l0 : (0 : Int) ≤ (x : Int) := by omega
      obtain ⟨c, hc⟩ : ∃ c : UInt8, s[x]'hlt = c := ⟨_, rfl⟩
      have hb : ∀ (h : x < s.size), ((s[x]'h).toNat : Int) = (c.toNat : Int) := fun h => by rw [hc]
      have HC : Hid (s[x]'hlt = c) := hc
      have hw1 : IntKind.i64.wrap ((x : Int) + 1) = (x : Int) + 1 := by rw [IntKind.wrap_i64]; omega
      have HX : Hid (0 + j = x) := hx
      rw [hx]
      clear hc hx hj
      by_cases hd : digB c = true
      · have HF : Hid (∀ V, Calls Tryz.prog 68 #[.int .u8 (c.toNat : Int)] V fun e w' => e = .returned (.bool true) ∧ V = w') := fun V => by have := rdigit_walk c V; rw [hd] at this; exact this
        have HDd : Hid (digB c = true) := hd
        clear hd
        go_wp2_with (first
          | (go_at_call 68; with_reducible refine Calls.mono (HF.out _) ?_; rintro e w1 ⟨rfl, rfl⟩))
        go_roundw
        case rel =>
          have hx := HX.out
          refine ⟨j + 1, by omega, by go_num, fun i hi h => ?_, by first | rfl | trivial⟩
          by_cases hij : i < j
          · exact HD.out i hij h
          · obtain rfl : i = j := by omega
            have := HC.out
            subst hx
            rw [this]; exact HDd.out
        case measure => (simp [intOf]) <;> omega
      · have hd' : digB c = false := by simpa using hd
        have HF : Hid (∀ V, Calls Tryz.prog 68 #[.int .u8 (c.toNat : Int)] V fun e w' => e = .returned (.bool false) ∧ V = w') := fun V => by have := rdigit_walk c V; rw [hd'] at this; exact this
        have hL : (leadN s.data.toList : Int) = if j = 0 then 0 else (x : Int) := by
          have hx := HX.out
          subst hx
          exact lead_at s 0 j HP.out (by omega) HD.out (fun h => by rw [HC.out]; exact hd')
        have HL : Hid ((leadN s.data.toList : Int) = if j = 0 then 0 else (x : Int)) := hL
        have hxx := HX.out
        clear hd hd' hL
        by_cases hj0 : j = 0
        · obtain rfl : x = 0 := by omega
          clear hxx
          go_wp2_with (first
            | (go_at_call 68; with_reducible refine Calls.mono (HF.out _) ?_; rintro e w1 ⟨rfl, rfl⟩))
          go_ret
          rw [HL.out, if_pos hj0]
          exact ⟨rfl, rfl⟩
        · have hx0 : ¬ (x : Int) = 0 := by omega
          have hx1 : ((x : Int) == 0) = false := by simp; omega
          go_wp2_with (first
            | (go_at_call 68; with_reducible refine Calls.mono (HF.out _) ?_; rintro e w1 ⟨rfl, rfl⟩))
          go_ret
          rw [HL.out, if_neg hj0]
          exact ⟨rfl, rfl⟩
    · have l1 : ¬ (x : Int) < (s.size : Int) := by omega
      have hL : (leadN s.data.toList : Int) = if j = 0 then 0 else (x : Int) := by
        subst hx
        exact lead_at s 0 j HP.out (by omega) HD.out (fun h => by omega)
      have HL : Hid ((leadN s.data.toList : Int) = if j = 0 then 0 else (x : Int)) := hL
      rw [hx]
      clear hL
      by_cases hj0 : j = 0
      · exact absurd (show x < s.size by omega) hlt
      · have hx0 : ¬ (x : Int) = 0 := by omega
        have hx1 : ((x : Int) == 0) = false := by simp; omega
        clear hx
        go_wp2
        go_ret
        rw [HL.out, if_neg hj0]
        exact ⟨rfl, rfl⟩

theorem rlead_walk (s : ByteArray) (hs : s.size ≤ 1000) (w : World) : Calls Tryz.prog 39 #[.string s] w fun e w' => e = .returned (.int .i64 (leadN s.data.toList)) ∧ w = w' := by
  have hl : s.data.toList.length = s.size := by simp
  rcases Nat.eq_zero_or_pos s.size with h0 | h0
  · exact rlead_empty s hs h0 (congrArg (fun l => (sgn l).length) (List.length_eq_zero_iff.1 (hl.trans h0))) w
  · have hcons := byte_at0 s h0
    have hsg : sgn s.data.toList = if s[0]'h0 = 43 ∨ s[0]'h0 = 45 then [s[0]'h0] else [] := (congrArg sgn hcons).trans (sgn_cons _ _)
    by_cases h1 : s[0]'h0 = 43
    · exact rlead_plus s hs h0 (s[0]'h0).toNat (fun h => rfl) (congrArg UInt8.toNat h1) (congrArg List.length (hsg.trans (if_pos (.inl h1)))) w
    by_cases h2 : s[0]'h0 = 45
    · exact rlead_minus s hs h0 (s[0]'h0).toNat (fun h => rfl) (congrArg UInt8.toNat h2) (congrArg List.length (hsg.trans (if_pos (.inr h2)))) w
    exact rlead_plain s hs h0 (s[0]'h0).toNat (fun h => rfl) (fun e => h1 (UInt8.toNat_inj.1 e)) (fun e => h2 (UInt8.toNat_inj.1 e)) (congrArg List.length (hsg.trans (if_neg (fun h => h.elim h1 h2)))) w
end Go.Proofs.YtoekdeoekcmpgaaGreatDoor
