/- The document's Read: a blob; what is no literal; all. -/
import Derived.Test.YtghemaghbpekfaaDoorRR
namespace Go.Proofs.YtghemaghbpekfaaDoor
open Go.ChangeShapes Go.WideShapes Go.ChangeAt Go.RowKit
set_option linter.unusedVariables false

set_option maxHeartbeats 2000000 in
set_option maxRecDepth 10000 in
theorem rread_blob (s : ByteArray) (hs : s.size ≤ 1000) (hnull : s.data.toList ≠ nullL) (hm : numR s.data.toList = none) (h2 : 3 ≤ s.size) (hx : (s[0]'(by omega)).toNat = 120) (hq : (s[1]'(by omega)).toNat = 39) (hz : (s[s.size - 1]'(by omega)).toNat = 39) (w : World) (o : Option (List UInt8)) (ho : unhx ((s.data.toList.drop 2).take (s.size - 3)) = o) :
    Calls Tryd.prog 19 #[.string s] w fun e w' => e = .returned (readV 3 o) ∧ Below w.heap.size w w' := by
  have h1 : ¬ (1000 : Int) < (s.size : Int) := by omega
  have hne : (s.toList == [78, 85, 76, 76]) = false := by rw [ByteArray.toList_eq]; simpa [nullL] using hnull
  have HN : Hid (∀ V, Calls Tryd.prog 26 #[.string s] V fun e w' => e = .returned (.tuple #[.int .i64 0, .bool false]) ∧ Below V.heap.size V w') := fun V => by have := number_walk s hs V; rw [hm] at this; exact this
  have HW : Hid (∀ V, _ → _) := res_later w
  have p0 : (0 : Int) < (s.size : Int) := by omega
  have p1 : ¬ (s.size : Int) < 3 := by omega
  have hb0 : ∀ (h : 0 < s.size), ((s[0]'h).toNat : Int) = 120 := fun h => by rw [hx]; rfl
  have hb1 : ∀ (h : 1 < s.size), ((s[1]'h).toNat : Int) = 39 := fun h => by rw [hq]; rfl
  have p2 : (1 : Int) < (s.size : Int) := by omega
  have m4 : (2 : Int) ≤ (s.size : Int) - 1 := by omega
  have hbz : ∀ (h : s.size - 1 < s.size), ((s[s.size - 1]'h).toNat : Int) = 39 := fun h => by rw [hz]; rfl
  have m1 : ((s.size : Int) - 1).toNat = s.size - 1 := by omega
  have m2 : (0 : Int) ≤ (s.size : Int) - 1 := by omega
  have m3 : (s.size : Int) - 1 < (s.size : Int) := by omega
  have m5 : (s.size : Int) - 1 ≤ (s.size : Int) := by omega
  have hw1 : IntKind.i64.wrap ((s.size : Int) - 1) = (s.size : Int) - 1 := by rw [IntKind.wrap_i64]; omega
  obtain ⟨s1, hs1⟩ : ∃ s1, s.extract 2 (s.size - 1) = s1 := ⟨_, rfl⟩
  have hl1 : s1.data.toList = (s.data.toList.drop 2).take (s.size - 3) := by
    rw [← hs1, Lib.extract_eq]
    show List.take _ _ = _
    rw [show s.size - 1 - 2 = s.size - 3 by omega]
  have hz1 : s1.size ≤ 1000 := by
    have h3 : s1.data.toList.length = s1.size := by simp
    have h4 : s.data.toList.length = s.size := by simp
    rw [← h3, hl1, List.length_take, List.length_drop, h4]; omega
  have HBy : Hid (∀ V, Calls Tryd.prog 27 #[.string s1, .bool true] V fun e w' => e = .returned (bytV o) ∧ Below V.heap.size V w') := fun V => by have := bytes_blob s1 hz1 V; rw [hl1, ho] at this; exact this
  clear hm hnull hq hz hx hl1 hz1 ho
  cases o with
  | none =>
    go_enter Tryd.func19, Tryd.ntmps19
    go_wp2_with (first
      | (go_at_call 26; with_reducible refine Calls.mono (HN.out _) ?_; rintro e w1 ⟨rfl, hb1⟩; have HBx := hide hb1; clear hb1)
      | (go_at_call 27; with_reducible refine Calls.mono (HBy.out _) ?_; rintro e w2 ⟨he, hb2⟩; dsimp only [bytV] at he; subst he; obtain ⟨d0, d1, d2, f0, f1, f2, a0, a1, a2, b0, b1, b2, HK1, HB1, HL1⟩ := HW.out _ (below_trans HBx.out hb2); have HBx2 := hide (below_trans HBx.out hb2); clear hb2)
      | (go_at_call 12; with_reducible refine Calls.mono (rmay_walk _ _ _ _) ?_; rintro e w3 ⟨rfl, hb3⟩; obtain ⟨d0, d1, d2, f0, f1, f2, a0, a1, a2, b0, b1, b2, HK3, HB3, HL3⟩ := HW.out _ (below_trans HBx2.out (below_trans (new_below w2 _ rfl) hb3)); clear hb3))

    first
      | exact ret_val2 Tryd.results19 rfl rfl ((Below.heap_alloc _ _ _ HL1.out).trans HK1.out) ⟨rfl, below_set3 (HB1.out.alloc HB1.out.size _) _ _ _⟩
      | exact ret_any Tryd.results19 rfl rfl (set3_alloc HK1.out _ _ _ _) ⟨rfl, below_set3_alloc HB1.out _ _ _ _⟩
  | some b =>
    by_cases hb4 : b.length ≤ 400
    · have hmB : mayB 3 0 ⟨b.toArray⟩ = true := by rw [may3]; simpa [ByteArray.size] using hb4
      have HR : Hid (readV 3 (some b) = .tuple #[val 3 0 ⟨b.toArray⟩, .int .i64 0]) := if_pos hb4
      rw [HR.out]
      go_enter Tryd.func19, Tryd.ntmps19
      go_wp2_with (first
        | (go_at_call 26; with_reducible refine Calls.mono (HN.out _) ?_; rintro e w1 ⟨rfl, hb1⟩; have HBx := hide hb1; clear hb1)
        | (go_at_call 27; with_reducible refine Calls.mono (HBy.out _) ?_; rintro e w2 ⟨he, hb2⟩; dsimp only [bytV] at he; subst he; obtain ⟨d0, d1, d2, f0, f1, f2, a0, a1, a2, b0, b1, b2, HK1, HB1, HL1⟩ := HW.out _ (below_trans HBx.out hb2); have HBx2 := hide (below_trans HBx.out hb2); clear hb2)
        | (go_at_call 12; with_reducible refine Calls.mono (rmay_walk _ _ _ _) ?_; rintro e w3 ⟨rfl, hb3⟩; obtain ⟨d0, d1, d2, f0, f1, f2, a0, a1, a2, b0, b1, b2, HK3, HB3, HL3⟩ := HW.out _ (below_trans HBx2.out (below_trans (new_below w2 _ rfl) hb3)); obtain ⟨v0, v1, v2, vv0, vv1, vv2⟩ := later_block w2 (.int .i64 3) (.int .i64 0) (.string ⟨b.toArray⟩) 31 _ hb3; clear hb3))
      exact ret_val2 Tryd.results19 rfl rfl HK3.out ⟨rfl, below_set3 HB3.out _ _ _⟩
    · have hmB : mayB 3 0 ⟨b.toArray⟩ = false := by rw [may3]; simpa [ByteArray.size] using hb4
      have HR : Hid (readV 3 (some b) = .tuple #[val 0 0 ⟨#[]⟩, .int .i64 120]) := if_neg hb4
      rw [HR.out]
      go_enter Tryd.func19, Tryd.ntmps19
      go_wp2_with (first
        | (go_at_call 26; with_reducible refine Calls.mono (HN.out _) ?_; rintro e w1 ⟨rfl, hb1⟩; have HBx := hide hb1; clear hb1)
        | (go_at_call 27; with_reducible refine Calls.mono (HBy.out _) ?_; rintro e w2 ⟨he, hb2⟩; dsimp only [bytV] at he; subst he; obtain ⟨d0, d1, d2, f0, f1, f2, a0, a1, a2, b0, b1, b2, HK1, HB1, HL1⟩ := HW.out _ (below_trans HBx.out hb2); have HBx2 := hide (below_trans HBx.out hb2); clear hb2)
        | (go_at_call 12; with_reducible refine Calls.mono (rmay_walk _ _ _ _) ?_; rintro e w3 ⟨rfl, hb3⟩; obtain ⟨d0, d1, d2, f0, f1, f2, a0, a1, a2, b0, b1, b2, HK3, HB3, HL3⟩ := HW.out _ (below_trans HBx2.out (below_trans (new_below w2 _ rfl) hb3)); obtain ⟨v0, v1, v2, vv0, vv1, vv2⟩ := later_block w2 (.int .i64 3) (.int .i64 0) (.string ⟨b.toArray⟩) 31 _ hb3; clear hb3))
      exact ret_val2 Tryd.results19 rfl rfl HK3.out ⟨rfl, below_set3 HB3.out _ _ _⟩

end Go.Proofs.YtghemaghbpekfaaDoor
