/- The walk of RecordVarint, whatever awake is shown to answer. -/
import Derived.Test.YtfjmoiooonialaaSK
namespace Go.Proofs.Ytfjmoiooonialaa
open Go.ChangeShapes Go.WideShapes Go.ChangeAt Go.RowKit
set_option linter.unusedVariables false

set_option maxHeartbeats 1000000 in
set_option maxRecDepth 10000 in
theorem recvarint_walk (hA : ∀ V, Calls Try.prog 11 #[] V fun e w' => e = .returned (.bool true) ∧ Below V.heap.size V w') (u : Nat) (hu : u < 18446744073709551616) (s : ByteArray) (hs : s.size ≤ 140737488355328) (w : World) :
    Calls Try.prog 3 #[.int .u64 (u : Int), .string s] w fun e w' => e = .returned (.bool true) ∧ Below w.heap.size w w' := by
  obtain ⟨r1, hr1⟩ : ∃ r, vrdU s.data.toList = r := ⟨_, rfl⟩
  obtain ⟨r2, hr2⟩ : ∃ r, vrdN s.data.toList = r := ⟨_, rfl⟩
  obtain ⟨Y, hY⟩ : ∃ Y : ByteArray, (⟨(putL u).toArray⟩ : ByteArray) = Y := ⟨_, rfl⟩
  have HA := hide hA
  have HP1 : Hid (∀ V, Calls Try.prog 9 #[.int .u64 (u : Int)] V fun e w' => e = .returned (.string Y) ∧ Below V.heap.size V w') := fun V => by have := put_walk u hu V; rw [hY] at this; exact this
  have HP2 : Hid (∀ V, Calls Try.prog 10 #[.int .u64 (u : Int)] V fun e w' => e = .returned (.string Y) ∧ Below V.heap.size V w') := fun V => by have := rput_walk u hu V; rw [hY] at this; exact this
  obtain ⟨er, her⟩ : ∃ er : Int, (if r2 = 0 then 8 else 0) = er := ⟨_, rfl⟩
  have HV1 : Hid (∀ V, Calls Try.prog 7 #[.string s] V fun e w' => e = .returned (.tuple #[.int .u64 (r1 : Int), .int .i64 (r2 : Int), .int .i64 er]) ∧ V = w') := fun V => by have := varint_walk s hs V; rw [hr1, hr2, her] at this; exact this
  have HV2 : Hid (∀ V, Calls Try.prog 8 #[.string s] V fun e w' => e = .returned (.tuple #[.int .u64 (r1 : Int), .int .i64 (r2 : Int)]) ∧ Below V.heap.size V w') := fun V => by
    obtain ⟨a, b, h⟩ : ∃ a b, beg s.data.toList 0 0 = (a, b) := ⟨_, _, rfl⟩
    exact rvarint_walk s hs a b h r1 r2 hr1 hr2 V
  clear hA hr1 hr2 hY hu hs
  by_cases h0 : r2 = 0
  · rw [if_pos h0] at her
    subst h0 her
    go_enter Try.func3, Try.ntmps3
    go_wp2_with (first
      | (go_at_call 7; with_reducible refine Calls.mono (HV1.out _) ?_; rintro e w1 ⟨rfl, rfl⟩)
      | (go_at_call 8; with_reducible refine Calls.mono (HV2.out _) ?_; rintro e w2 ⟨rfl, hb2⟩; have HX2 := hide hb2; clear hb2)
      | (go_at_call 9; with_reducible refine Calls.mono (HP1.out _) ?_; rintro e w3 ⟨rfl, hb3⟩; have HX3 := hide (below_trans HX2.out hb3); clear hb3)
      | (go_at_call 10; with_reducible refine Calls.mono (HP2.out _) ?_; rintro e w4 ⟨rfl, hb4⟩; have HX4 := hide (below_trans HX3.out hb4); clear hb4)
      | (go_at_call 11; with_reducible refine Calls.mono (HA.out _) ?_; rintro e w5 ⟨rfl, hb5⟩; have HX5 := hide (below_trans HX4.out hb5); clear hb5))
    go_ret
    exact ⟨by simp, HX5.out⟩
  · rw [if_neg h0] at her
    subst her
    have hb0 : ((r2 : Int) == 0) = false := by simp; omega
    clear h0
    go_enter Try.func3, Try.ntmps3
    go_wp2_with (first
      | (go_at_call 7; with_reducible refine Calls.mono (HV1.out _) ?_; rintro e w1 ⟨rfl, rfl⟩)
      | (go_at_call 8; with_reducible refine Calls.mono (HV2.out _) ?_; rintro e w2 ⟨rfl, hb2⟩; have HX2 := hide hb2; clear hb2)
      | (go_at_call 9; with_reducible refine Calls.mono (HP1.out _) ?_; rintro e w3 ⟨rfl, hb3⟩; have HX3 := hide (below_trans HX2.out hb3); clear hb3)
      | (go_at_call 10; with_reducible refine Calls.mono (HP2.out _) ?_; rintro e w4 ⟨rfl, hb4⟩; have HX4 := hide (below_trans HX3.out hb4); clear hb4)
      | (go_at_call 11; with_reducible refine Calls.mono (HA.out _) ?_; rintro e w5 ⟨rfl, hb5⟩; have HX5 := hide (below_trans HX4.out hb5); clear hb5))
    go_ret
    exact ⟨by simp, HX5.out⟩
end Go.Proofs.Ytfjmoiooonialaa
