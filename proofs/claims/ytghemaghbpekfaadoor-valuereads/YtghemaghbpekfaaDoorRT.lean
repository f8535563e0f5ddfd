/- The document's Read: a blob; what is no literal; all. -/
import Derived.Test.YtghemaghbpekfaaDoorRS
namespace Go.Proofs.YtghemaghbpekfaaDoor
open Go.ChangeShapes Go.WideShapes Go.ChangeAt Go.RowKit
set_option linter.unusedVariables false

set_option maxHeartbeats 2000000 in
set_option maxRecDepth 10000 in
theorem rread_badA (s : ByteArray) (hs : s.size ≤ 1000) (hnull : s.data.toList ≠ nullL) (hm : numR s.data.toList = none) (h1 : 1 ≤ s.size) (h2 : s.size < 3) (hx : (s[0]'(by omega)).toNat = 120) (w : World) :
    Calls Tryd.prog 19 #[.string s] w fun e w' => e = .returned (.tuple #[val 0 0 ⟨#[]⟩, .int .i64 120]) ∧ Below w.heap.size w w' := by
  have g1 : ¬ (1000 : Int) < (s.size : Int) := by omega
  have hne : (s.toList == [78, 85, 76, 76]) = false := by rw [ByteArray.toList_eq]; simpa [nullL] using hnull
  have HN : Hid (∀ V, Calls Tryd.prog 26 #[.string s] V fun e w' => e = .returned (.tuple #[.int .i64 0, .bool false]) ∧ Below V.heap.size V w') := fun V => by have := number_walk s hs V; rw [hm] at this; exact this
  have HW : Hid (∀ V, _ → _) := res_later w
  have p0 : (0 : Int) < (s.size : Int) := by omega
  have p1 : (s.size : Int) < 3 := by omega
  have hb0 : ∀ (h : 0 < s.size), ((s[0]'h).toNat : Int) = 120 := fun h => by have := hx; omega

  clear hm hnull
  go_enter Tryd.func19, Tryd.ntmps19
  go_wp2_with (first
    | (go_at_call 26; with_reducible refine Calls.mono (HN.out _) ?_; rintro e w1 ⟨rfl, hb1⟩; obtain ⟨d0, d1, d2, f0, f1, f2, a0, a1, a2, b0, b1, b2, HK1, HB1, HL1⟩ := HW.out _ hb1; clear hb1))
  exact ret_val2 Tryd.results19 rfl rfl HK1.out ⟨rfl, below_set3 HB1.out _ _ _⟩

set_option maxHeartbeats 2000000 in
set_option maxRecDepth 10000 in
theorem rread_badB (s : ByteArray) (hs : s.size ≤ 1000) (hnull : s.data.toList ≠ nullL) (hm : numR s.data.toList = none) (h1 : 3 ≤ s.size) (hx : (s[0]'(by omega)).toNat = 120) (hq : (s[1]'(by omega)).toNat ≠ 39) (w : World) :
    Calls Tryd.prog 19 #[.string s] w fun e w' => e = .returned (.tuple #[val 0 0 ⟨#[]⟩, .int .i64 120]) ∧ Below w.heap.size w w' := by
  have g1 : ¬ (1000 : Int) < (s.size : Int) := by omega
  have hne : (s.toList == [78, 85, 76, 76]) = false := by rw [ByteArray.toList_eq]; simpa [nullL] using hnull
  have HN : Hid (∀ V, Calls Tryd.prog 26 #[.string s] V fun e w' => e = .returned (.tuple #[.int .i64 0, .bool false]) ∧ Below V.heap.size V w') := fun V => by have := number_walk s hs V; rw [hm] at this; exact this
  have HW : Hid (∀ V, _ → _) := res_later w
  have p0 : (0 : Int) < (s.size : Int) := by omega
  have p1 : ¬ (s.size : Int) < 3 := by omega
  have p2 : (1 : Int) < (s.size : Int) := by omega
  have hb0 : ∀ (h : 0 < s.size), ((s[0]'h).toNat : Int) = 120 := fun h => by have := hx; omega
  have hb1 : ∀ (h : 1 < s.size), ((s[1]'h).toNat : Int) ≠ 39 := fun h => by have := hq; omega

  clear hm hnull
  go_enter Tryd.func19, Tryd.ntmps19
  go_wp2_with (first
    | (go_at_call 26; with_reducible refine Calls.mono (HN.out _) ?_; rintro e w1 ⟨rfl, hb1⟩; obtain ⟨d0, d1, d2, f0, f1, f2, a0, a1, a2, b0, b1, b2, HK1, HB1, HL1⟩ := HW.out _ hb1; clear hb1))
  exact ret_val2 Tryd.results19 rfl rfl HK1.out ⟨rfl, below_set3 HB1.out _ _ _⟩

set_option maxHeartbeats 2000000 in
set_option maxRecDepth 10000 in
theorem rread_badC (s : ByteArray) (hs : s.size ≤ 1000) (hnull : s.data.toList ≠ nullL) (hm : numR s.data.toList = none) (h1 : 3 ≤ s.size) (hx : (s[0]'(by omega)).toNat = 120) (hq : (s[1]'(by omega)).toNat = 39) (hz : (s[s.size - 1]'(by omega)).toNat ≠ 39) (w : World) :
    Calls Tryd.prog 19 #[.string s] w fun e w' => e = .returned (.tuple #[val 0 0 ⟨#[]⟩, .int .i64 120]) ∧ Below w.heap.size w w' := by
  have g1 : ¬ (1000 : Int) < (s.size : Int) := by omega
  have hne : (s.toList == [78, 85, 76, 76]) = false := by rw [ByteArray.toList_eq]; simpa [nullL] using hnull
  have HN : Hid (∀ V, Calls Tryd.prog 26 #[.string s] V fun e w' => e = .returned (.tuple #[.int .i64 0, .bool false]) ∧ Below V.heap.size V w') := fun V => by have := number_walk s hs V; rw [hm] at this; exact this
  have HW : Hid (∀ V, _ → _) := res_later w
  have p0 : (0 : Int) < (s.size : Int) := by omega
  have p1 : ¬ (s.size : Int) < 3 := by omega
  have p2 : (1 : Int) < (s.size : Int) := by omega
  have hb0 : ∀ (h : 0 < s.size), ((s[0]'h).toNat : Int) = 120 := fun h => by have := hx; omega
  have hb1 : ∀ (h : 1 < s.size), ((s[1]'h).toNat : Int) = 39 := fun h => by have := hq; omega
  have m1 : ((s.size : Int) - 1).toNat = s.size - 1 := by omega
  have m2 : (0 : Int) ≤ (s.size : Int) - 1 := by omega
  have m3 : (s.size : Int) - 1 < (s.size : Int) := by omega
  have hw1 : IntKind.i64.wrap ((s.size : Int) - 1) = (s.size : Int) - 1 := by rw [IntKind.wrap_i64]; omega
  obtain ⟨q, hq9⟩ : ∃ q, (s[s.size - 1]'(by omega)).toNat = q := ⟨_, rfl⟩
  have hbz : ∀ (h : s.size - 1 < s.size), ((s[s.size - 1]'h).toNat : Int) = (q : Int) := fun h => by rw [hq9]
  have hbq : ((q : Int) != 39) = true := by have := hz; simp; omega
  clear hz hq9

  clear hm hnull
  go_enter Tryd.func19, Tryd.ntmps19
  go_wp2_with (first
    | (go_at_call 26; with_reducible refine Calls.mono (HN.out _) ?_; rintro e w1 ⟨rfl, hb1⟩; obtain ⟨d0, d1, d2, f0, f1, f2, a0, a1, a2, b0, b1, b2, HK1, HB1, HL1⟩ := HW.out _ hb1; clear hb1))
  exact ret_val2 Tryd.results19 rfl rfl HK1.out ⟨rfl, below_set3 HB1.out _ _ _⟩

set_option maxHeartbeats 2000000 in
set_option maxRecDepth 10000 in
theorem rread_badD (s : ByteArray) (hs : s.size ≤ 1000) (hnull : s.data.toList ≠ nullL) (hm : numR s.data.toList = none) (h1 : s.size = 0) (w : World) :
    Calls Tryd.prog 19 #[.string s] w fun e w' => e = .returned (.tuple #[val 0 0 ⟨#[]⟩, .int .i64 120]) ∧ Below w.heap.size w w' := by
  have g1 : ¬ (1000 : Int) < (s.size : Int) := by omega
  have hne : (s.toList == [78, 85, 76, 76]) = false := by rw [ByteArray.toList_eq]; simpa [nullL] using hnull
  have HN : Hid (∀ V, Calls Tryd.prog 26 #[.string s] V fun e w' => e = .returned (.tuple #[.int .i64 0, .bool false]) ∧ Below V.heap.size V w') := fun V => by have := number_walk s hs V; rw [hm] at this; exact this
  have HW : Hid (∀ V, _ → _) := res_later w
  have p0 : ¬ (0 : Int) < (s.size : Int) := by omega
  have p1 : (s.size : Int) < 2 := by omega

  clear hm hnull
  go_enter Tryd.func19, Tryd.ntmps19
  go_wp2_with (first
    | (go_at_call 26; with_reducible refine Calls.mono (HN.out _) ?_; rintro e w1 ⟨rfl, hb1⟩; obtain ⟨d0, d1, d2, f0, f1, f2, a0, a1, a2, b0, b1, b2, HK1, HB1, HL1⟩ := HW.out _ hb1; clear hb1))
  exact ret_val2 Tryd.results19 rfl rfl HK1.out ⟨rfl, below_set3 HB1.out _ _ _⟩

set_option maxHeartbeats 2000000 in
set_option maxRecDepth 10000 in
theorem rread_badE (s : ByteArray) (hs : s.size ≤ 1000) (hnull : s.data.toList ≠ nullL) (hm : numR s.data.toList = none) (h1 : s.size = 1) (hx : (s[0]'(by omega)).toNat ≠ 120) (w : World) :
    Calls Tryd.prog 19 #[.string s] w fun e w' => e = .returned (.tuple #[val 0 0 ⟨#[]⟩, .int .i64 120]) ∧ Below w.heap.size w w' := by
  have g1 : ¬ (1000 : Int) < (s.size : Int) := by omega
  have hne : (s.toList == [78, 85, 76, 76]) = false := by rw [ByteArray.toList_eq]; simpa [nullL] using hnull
  have HN : Hid (∀ V, Calls Tryd.prog 26 #[.string s] V fun e w' => e = .returned (.tuple #[.int .i64 0, .bool false]) ∧ Below V.heap.size V w') := fun V => by have := number_walk s hs V; rw [hm] at this; exact this
  have HW : Hid (∀ V, _ → _) := res_later w
  have p0 : (0 : Int) < (s.size : Int) := by omega
  have p1 : (s.size : Int) < 2 := by omega
  have hb0 : ∀ (h : 0 < s.size), ((s[0]'h).toNat : Int) ≠ 120 := fun h => by have := hx; omega

  clear hm hnull
  go_enter Tryd.func19, Tryd.ntmps19
  go_wp2_with (first
    | (go_at_call 26; with_reducible refine Calls.mono (HN.out _) ?_; rintro e w1 ⟨rfl, hb1⟩; obtain ⟨d0, d1, d2, f0, f1, f2, a0, a1, a2, b0, b1, b2, HK1, HB1, HL1⟩ := HW.out _ hb1; clear hb1))
  exact ret_val2 Tryd.results19 rfl rfl HK1.out ⟨rfl, below_set3 HB1.out _ _ _⟩

set_option maxHeartbeats 2000000 in
set_option maxRecDepth 10000 in
theorem rread_badF (s : ByteArray) (hs : s.size ≤ 1000) (hnull : s.data.toList ≠ nullL) (hm : numR s.data.toList = none) (h1 : 2 ≤ s.size) (hx : (s[0]'(by omega)).toNat ≠ 120) (hq : (s[0]'(by omega)).toNat ≠ 39) (w : World) :
    Calls Tryd.prog 19 #[.string s] w fun e w' => e = .returned (.tuple #[val 0 0 ⟨#[]⟩, .int .i64 120]) ∧ Below w.heap.size w w' := by
  have g1 : ¬ (1000 : Int) < (s.size : Int) := by omega
  have hne : (s.toList == [78, 85, 76, 76]) = false := by rw [ByteArray.toList_eq]; simpa [nullL] using hnull
  have HN : Hid (∀ V, Calls Tryd.prog 26 #[.string s] V fun e w' => e = .returned (.tuple #[.int .i64 0, .bool false]) ∧ Below V.heap.size V w') := fun V => by have := number_walk s hs V; rw [hm] at this; exact this
  have HW : Hid (∀ V, _ → _) := res_later w
  have p0 : (0 : Int) < (s.size : Int) := by omega
  have p1 : ¬ (s.size : Int) < 2 := by omega
  have hb0 : ∀ (h : 0 < s.size), ((s[0]'h).toNat : Int) ≠ 120 := fun h => by have := hx; omega
  have hc0 : ∀ (h : 0 < s.size), ((s[0]'h).toNat : Int) ≠ 39 := fun h => by have := hq; omega

  clear hm hnull
  go_enter Tryd.func19, Tryd.ntmps19
  go_wp2_with (first
    | (go_at_call 26; with_reducible refine Calls.mono (HN.out _) ?_; rintro e w1 ⟨rfl, hb1⟩; obtain ⟨d0, d1, d2, f0, f1, f2, a0, a1, a2, b0, b1, b2, HK1, HB1, HL1⟩ := HW.out _ hb1; clear hb1))
  exact ret_val2 Tryd.results19 rfl rfl HK1.out ⟨rfl, below_set3 HB1.out _ _ _⟩

set_option maxHeartbeats 2000000 in
set_option maxRecDepth 10000 in
theorem rread_badG (s : ByteArray) (hs : s.size ≤ 1000) (hnull : s.data.toList ≠ nullL) (hm : numR s.data.toList = none) (h1 : 2 ≤ s.size)  (hq : (s[0]'(by omega)).toNat = 39) (hz : (s[s.size - 1]'(by omega)).toNat ≠ 39) (w : World) :
    Calls Tryd.prog 19 #[.string s] w fun e w' => e = .returned (.tuple #[val 0 0 ⟨#[]⟩, .int .i64 120]) ∧ Below w.heap.size w w' := by
  have g1 : ¬ (1000 : Int) < (s.size : Int) := by omega
  have hne : (s.toList == [78, 85, 76, 76]) = false := by rw [ByteArray.toList_eq]; simpa [nullL] using hnull
  have HN : Hid (∀ V, Calls Tryd.prog 26 #[.string s] V fun e w' => e = .returned (.tuple #[.int .i64 0, .bool false]) ∧ Below V.heap.size V w') := fun V => by have := number_walk s hs V; rw [hm] at this; exact this
  have HW : Hid (∀ V, _ → _) := res_later w
  have p0 : (0 : Int) < (s.size : Int) := by omega
  have p1 : ¬ (s.size : Int) < 2 := by omega
  have hb0 : ∀ (h : 0 < s.size), ((s[0]'h).toNat : Int) = 39 := fun h => by have := hq; omega
  have m1 : ((s.size : Int) - 1).toNat = s.size - 1 := by omega
  have m2 : (0 : Int) ≤ (s.size : Int) - 1 := by omega
  have m3 : (s.size : Int) - 1 < (s.size : Int) := by omega
  have hw1 : IntKind.i64.wrap ((s.size : Int) - 1) = (s.size : Int) - 1 := by rw [IntKind.wrap_i64]; omega
  obtain ⟨q, hq9⟩ : ∃ q, (s[s.size - 1]'(by omega)).toNat = q := ⟨_, rfl⟩
  have hbz : ∀ (h : s.size - 1 < s.size), ((s[s.size - 1]'h).toNat : Int) = (q : Int) := fun h => by rw [hq9]
  have hbq : ((q : Int) != 39) = true := by have := hz; simp; omega
  clear hz hq9

  clear hm hnull
  go_enter Tryd.func19, Tryd.ntmps19
  go_wp2_with (first
    | (go_at_call 26; with_reducible refine Calls.mono (HN.out _) ?_; rintro e w1 ⟨rfl, hb1⟩; obtain ⟨d0, d1, d2, f0, f1, f2, a0, a1, a2, b0, b1, b2, HK1, HB1, HL1⟩ := HW.out _ hb1; clear hb1))
  exact ret_val2 Tryd.results19 rfl rfl HK1.out ⟨rfl, below_set3 HB1.out _ _ _⟩

set_option maxRecDepth 10000 in
theorem rread_null (s : ByteArray) (hs : s.data.toList = nullL) (w : World) :
    Calls Tryd.prog 19 #[.string s] w fun e w' => e = .returned (.tuple #[val 0 0 ⟨#[]⟩, .int .i64 0]) ∧ Below w.heap.size w w' := by
  obtain rfl : s = ⟨#[78, 85, 76, 76]⟩ := by cases s with | mk d => cases d with | mk l => simp only [nullL] at hs; rw [show l = [78, 85, 76, 76] from hs]
  go_enter Tryd.func19, Tryd.ntmps19
  go_wp2
  go_returns
  exact ⟨rfl, new_below w _ rfl⟩
set_option maxRecDepth 10000 in
theorem rread_long (s : ByteArray) (hs : 1000 < s.size) (w : World) :
    Calls Tryd.prog 19 #[.string s] w fun e w' => e = .returned (.tuple #[val 0 0 ⟨#[]⟩, .int .i64 3]) ∧ Below w.heap.size w w' := by
  have h1 : (1000 : Int) < (s.size : Int) := by omega
  go_enter Tryd.func19, Tryd.ntmps19
  go_wp2
  go_returns
  exact ⟨rfl, new_below w _ rfl⟩

end Go.Proofs.YtghemaghbpekfaaDoor
