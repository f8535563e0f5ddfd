/- The walk of ValueRound. -/
import Derived.Test.YtghemaghbpekfaaDoorVD
namespace Go.Proofs.YtghemaghbpekfaaDoor
open Go.ChangeShapes Go.WideShapes Go.ChangeAt Go.RowKit
set_option linter.unusedVariables false

theorem readsAs_one {s : List UInt8} {k n : Int} {t : List UInt8} {c : Int} {k' n' : Int} {t' : List UInt8} {c' : Int} (h : readsAs s k n t c) (h' : readsAs s k' n' t' c') : k' = k ∧ n' = n ∧ t' = t ∧ c' = c := by
  rcases h with ⟨h1, rfl, rfl, rfl, rfl⟩ | ⟨h1, hm, hp, rfl, rfl, rfl, rfl⟩ | ⟨h1, hn, rfl, rfl, rfl, rfl⟩ <;>
    rcases h' with ⟨g1, rfl, rfl, rfl, rfl⟩ | ⟨g1, gm, gp, rfl, rfl, rfl, rfl⟩ | ⟨g1, gn, rfl, rfl, rfl, rfl⟩
  all_goals first
    | exact ⟨rfl, rfl, rfl, rfl⟩
    | omega
    | exact absurd ⟨hm, hp⟩ gn
    | exact absurd ⟨gm, gp⟩ hn

theorem readsAs_some (s : List UInt8) : ∃ k n t c, readsAs s k n t c := by
  by_cases h : 1000 < s.length
  · exact ⟨_, _, _, _, .inl ⟨h, rfl, rfl, rfl, rfl⟩⟩
  · by_cases h2 : MayL (guessK s) (guessN s) (guessT s) ∧ printL (guessK s) (guessN s) (guessT s) = s
    · exact ⟨_, _, _, _, .inr (.inl ⟨by omega, h2.1, h2.2, rfl, rfl, rfl, rfl⟩)⟩
    · exact ⟨_, _, _, _, .inr (.inr ⟨by omega, h2, rfl, rfl, rfl, rfl⟩)⟩

theorem read_fixed (s : ByteArray) : ∃ (k n : Int) (t : ByteArray) (c : Int), readsAs s.data.toList k n t.data.toList c ∧
    ∀ w, Env w → Calls Tryd.prog 18 #[.string s] w fun e w' => e = .returned (.tuple #[.agg #[.int .i64 k, .int .i64 n, .string t], .int .i64 c]) ∧ Below w.heap.size w w' := by
  obtain ⟨k, n, t, c, h⟩ := readsAs_some s.data.toList
  refine ⟨k, n, ⟨t.toArray⟩, c, by simpa using h, fun w hE => (read_walk s w hE).mono ?_⟩
  rintro e w1 ⟨k', n', t', c', rfl, h', hb⟩
  obtain ⟨rfl, rfl, ht, rfl⟩ := readsAs_one h h'
  refine ⟨?_, hb⟩
  rw [show t' = ⟨t.toArray⟩ by cases t' with | mk d => simp at ht; simp [← ht]]

/-- What a value's own block holds, in every later world. -/
theorem later_block (w : World) (a b c : Value) (T : TypeId) (V : World) (h : Below (w.alloc (.cells #[a, b, c] T)).heap.size (w.alloc (.cells #[a, b, c] T)) V) :
    V.cell? ⟨w.heap.size, 0, none⟩ = some a ∧ V.cell? ⟨w.heap.size, 1, none⟩ = some b ∧ V.cell? ⟨w.heap.size, 2, none⟩ = some c ∧
    (∀ o, (V.alloc o).cell? ⟨w.heap.size, 0, none⟩ = some a) ∧ (∀ o, (V.alloc o).cell? ⟨w.heap.size, 1, none⟩ = some b) ∧ (∀ o, (V.alloc o).cell? ⟨w.heap.size, 2, none⟩ = some c) := by
  obtain ⟨d0, d1, d2, _⟩ := res_facts (res_block w _ _ _ _ h)
  exact ⟨d0, d1, d2, fun o => cell_later (new_below V o rfl) d0, fun o => cell_later (new_below V o rfl) d1, fun o => cell_later (new_below V o rfl) d2⟩

set_option maxHeartbeats 2000000 in
set_option maxRecDepth 10000 in
theorem round_walk (k n : Int) (t s : ByteArray) (h0 : -9223372036854775808 ≤ n) (h1 : n ≤ 9223372036854775807) (w : World) (hE : Env w) :
    Calls Tryd.prog 6 #[val k n t, .string s] w fun e w' => e = .returned (.bool true) ∧ Below w.heap.size w w' := by
  obtain ⟨k2, n2, t2, c2, hR, hRd⟩ := read_fixed s
  have HRd : Hid (∀ w, Env w → Calls Tryd.prog 18 #[.string s] w fun e w' => e = .returned (.tuple #[.agg #[.int .i64 k2, .int .i64 n2, .string t2], .int .i64 c2]) ∧ Below w.heap.size w w') := hRd
  have HV : Hid (∀ V, Below (w.alloc (.cells #[.int .i64 k, .int .i64 n, .string t] 31)).heap.size (w.alloc (.cells #[.int .i64 k, .int .i64 n, .string t] 31)) V → _) := later_block w (.int .i64 k) (.int .i64 n) (.string t) 31
  have HE : Hid (∀ V, Below (w.alloc (.cells #[.int .i64 k, .int .i64 n, .string t] 31)).heap.size (w.alloc (.cells #[.int .i64 k, .int .i64 n, .string t] 31)) V → Env V) := fun V h => (hE.below (new_below w _ rfl)).below h
  have HE0 : Hid (Env (w.alloc (.cells #[.int .i64 k, .int .i64 n, .string t] 31))) := hE.below (new_below w _ rfl)
  have HB0 : Hid (∀ V, Below (w.alloc (.cells #[.int .i64 k, .int .i64 n, .string t] 31)).heap.size (w.alloc (.cells #[.int .i64 k, .int .i64 n, .string t] 31)) V → Below w.heap.size w V) := fun V h => below_trans (new_below w _ rfl) h
  clear hRd
  by_cases hm : MayL k n t.data.toList
  · have hmB : mayB k n t = true := by simp [mayB, hm]
    obtain ⟨X, hX⟩ : ∃ X : ByteArray, (⟨(printL k n t.data.toList).toArray⟩ : ByteArray) = X := ⟨_, rfl⟩
    have HP : Hid (∀ V, Env V → Calls Tryd.prog 16 #[.agg #[.int .i64 k, .int .i64 n, .string t]] V fun e w' => e = .returned (.tuple #[.string X, .int .i64 0]) ∧ Below V.heap.size V w') := by
      intro V hV
      rw [← hX]
      exact print_may k n t h0 h1 hm V hV
    have HRt : Hid (∀ V, Env V → Calls Tryd.prog 18 #[.string X] V fun e w' => e = .returned (.tuple #[.agg #[.int .i64 k, .int .i64 n, .string t], .int .i64 0]) ∧ Below V.heap.size V w') := by
      intro V hV
      refine (read_walk X V hV).mono ?_
      rintro e w' ⟨k', n', t', c', rfl, h', hb⟩
      rw [← hX] at h'
      obtain ⟨rfl, rfl, ht, rfl⟩ := reads_print h0 h1 hm h'
      refine ⟨?_, hb⟩
      rw [show t' = t by cases t' with | mk d => cases t with | mk d' => simp at ht; simp [ht]]
    clear hX
    rcases hR with ⟨_, rfl, rfl, _, rfl⟩ | ⟨_, hm2, hp2, hk2, hn2, ht2, rfl⟩ | ⟨_, _, rfl, rfl, _, rfl⟩
    · go_enter Tryd.func6, Tryd.ntmps6
      go_wp2_with (first
        | (go_at_call 7; with_reducible refine Calls.mono (head_walk _ HE0.out) ?_; rintro e w1 ⟨rfl, hb1⟩; obtain ⟨a0, a1, a2, b0, b1, b2⟩ := HV.out _ hb1; have HB1 := hide hb1; clear hb1)
        | (go_at_call 16; with_reducible refine Calls.mono (HP.out _ (HE.out _ HB1.out)) ?_; rintro e w2 ⟨rfl, hb2⟩; have HB2 := hide (below_trans HB1.out hb2); clear hb2; obtain ⟨a0, a1, a2, b0, b1, b2⟩ := HV.out _ HB2.out)
        | (go_at_call 11; with_reducible refine Calls.mono (may_walk k n t _) ?_; rintro e w3 ⟨rfl, hb3⟩; have HB3 := hide (below_trans HB2.out hb3); clear hb3; obtain ⟨a0, a1, a2, b0, b1, b2⟩ := HV.out _ HB3.out)
        | (go_at_call 18; with_reducible refine Calls.mono (HRt.out _ (HE.out _ HB3.out)) ?_; rintro e wt ⟨rfl, hbt⟩; have HBt := hide (below_trans HB3.out hbt); clear hbt; obtain ⟨a0, a1, a2, b0, b1, b2⟩ := HV.out _ HBt.out)
        | (go_at_call 18; with_reducible refine Calls.mono (HRd.out _ ((HE.out _ HBt.out).below (new_below wt _ rfl))) ?_; rintro e w4 ⟨rfl, hb4⟩; have HB4 := hide (below_trans HBt.out (below_trans (new_below wt _ rfl) hb4)); clear hb4))
      go_ret
      exact ⟨rfl, HB0.out _ (below_trans HB4.out (new_below w4 _ rfl))⟩
    · have hr2 := guessN_range s.data.toList
      have hmB2 : mayB k2 n2 t2 = true := by simp [mayB, hm2]
      have HP2 : Hid (∀ V, Env V → Calls Tryd.prog 16 #[.agg #[.int .i64 k2, .int .i64 n2, .string t2]] V fun e w' => e = .returned (.tuple #[.string s, .int .i64 0]) ∧ Below V.heap.size V w') := by
        intro V hV
        refine (print_may k2 n2 t2 (by rw [hn2]; exact hr2.1) (by rw [hn2]; exact hr2.2) hm2 V hV).mono ?_
        rintro e w' ⟨rfl, hb⟩
        refine ⟨?_, hb⟩
        rw [hp2]
      clear hm2 hp2 hk2 hn2 ht2 hr2
      go_enter Tryd.func6, Tryd.ntmps6
      go_wp2_with (first
        | (go_at_call 7; with_reducible refine Calls.mono (head_walk _ HE0.out) ?_; rintro e w1 ⟨rfl, hb1⟩; obtain ⟨a0, a1, a2, b0, b1, b2⟩ := HV.out _ hb1; have HB1 := hide hb1; clear hb1)
        | (go_at_call 16; with_reducible refine Calls.mono (HP.out _ (HE.out _ HB1.out)) ?_; rintro e w2 ⟨rfl, hb2⟩; have HB2 := hide (below_trans HB1.out hb2); clear hb2; obtain ⟨a0, a1, a2, b0, b1, b2⟩ := HV.out _ HB2.out)
        | (go_at_call 11; with_reducible refine Calls.mono (may_walk k n t _) ?_; rintro e w3 ⟨rfl, hb3⟩; have HB3 := hide (below_trans HB2.out hb3); clear hb3; obtain ⟨a0, a1, a2, b0, b1, b2⟩ := HV.out _ HB3.out)
        | (go_at_call 16; with_reducible refine Calls.mono (HP2.out _ (HE4.out.below (new_below w4 _ rfl))) ?_; rintro e w5 ⟨rfl, hb5⟩; obtain ⟨g0, g1, g2, q0, q1, q2⟩ := later_block w4 (.int .i64 k2) (.int .i64 n2) (.string t2) 31 _ hb5; have HB5 := hide (below_trans HB4.out (below_trans (new_below w4 _ rfl) hb5)); clear hb5)
        | (go_at_call 11; with_reducible refine Calls.mono (may_walk k2 n2 t2 _) ?_; rintro e w6 ⟨rfl, hb6⟩; have HB6 := hide (below_trans HB5.out hb6); clear hb6)
        | (go_at_call 18; with_reducible refine Calls.mono (HRt.out _ (HE.out _ HB3.out)) ?_; rintro e wt ⟨rfl, hbt⟩; have HBt := hide (below_trans HB3.out hbt); clear hbt; obtain ⟨a0, a1, a2, b0, b1, b2⟩ := HV.out _ HBt.out)
        | (go_at_call 18; with_reducible refine Calls.mono (HRd.out _ ((HE.out _ HBt.out).below (new_below wt _ rfl))) ?_; rintro e w4 ⟨rfl, hb4⟩; have HB4 := hide (below_trans HBt.out (below_trans (new_below wt _ rfl) hb4)); clear hb4; have HE4 := hide (HE.out _ HB4.out)))
      go_ret
      exact ⟨rfl, HB0.out _ HB6.out⟩
    · go_enter Tryd.func6, Tryd.ntmps6
      go_wp2_with (first
        | (go_at_call 7; with_reducible refine Calls.mono (head_walk _ HE0.out) ?_; rintro e w1 ⟨rfl, hb1⟩; obtain ⟨a0, a1, a2, b0, b1, b2⟩ := HV.out _ hb1; have HB1 := hide hb1; clear hb1)
        | (go_at_call 16; with_reducible refine Calls.mono (HP.out _ (HE.out _ HB1.out)) ?_; rintro e w2 ⟨rfl, hb2⟩; have HB2 := hide (below_trans HB1.out hb2); clear hb2; obtain ⟨a0, a1, a2, b0, b1, b2⟩ := HV.out _ HB2.out)
        | (go_at_call 11; with_reducible refine Calls.mono (may_walk k n t _) ?_; rintro e w3 ⟨rfl, hb3⟩; have HB3 := hide (below_trans HB2.out hb3); clear hb3; obtain ⟨a0, a1, a2, b0, b1, b2⟩ := HV.out _ HB3.out)
        | (go_at_call 18; with_reducible refine Calls.mono (HRt.out _ (HE.out _ HB3.out)) ?_; rintro e wt ⟨rfl, hbt⟩; have HBt := hide (below_trans HB3.out hbt); clear hbt; obtain ⟨a0, a1, a2, b0, b1, b2⟩ := HV.out _ HBt.out)
        | (go_at_call 18; with_reducible refine Calls.mono (HRd.out _ ((HE.out _ HBt.out).below (new_below wt _ rfl))) ?_; rintro e w4 ⟨rfl, hb4⟩; have HB4 := hide (below_trans HBt.out (below_trans (new_below wt _ rfl) hb4)); clear hb4))
      go_ret
      exact ⟨rfl, HB0.out _ (below_trans HB4.out (new_below w4 _ rfl))⟩
  · have hmB : mayB k n t = false := by simp [mayB, hm]
    have HP : Hid (∀ V, Calls Tryd.prog 16 #[.agg #[.int .i64 k, .int .i64 n, .string t]] V fun e w' => e = .returned (.tuple #[.string ⟨#[]⟩, .int .i64 2]) ∧ Below V.heap.size V w') := fun V => print_no k n t hm V
    rcases hR with ⟨_, rfl, rfl, _, rfl⟩ | ⟨_, hm2, hp2, hk2, hn2, ht2, rfl⟩ | ⟨_, _, rfl, rfl, _, rfl⟩
    · go_enter Tryd.func6, Tryd.ntmps6
      go_wp2_with (first
        | (go_at_call 7; with_reducible refine Calls.mono (head_walk _ HE0.out) ?_; rintro e w1 ⟨rfl, hb1⟩; obtain ⟨a0, a1, a2, b0, b1, b2⟩ := HV.out _ hb1; have HB1 := hide hb1; clear hb1)
        | (go_at_call 16; with_reducible refine Calls.mono (HP.out _) ?_; rintro e w2 ⟨rfl, hb2⟩; have HB2 := hide (below_trans HB1.out hb2); clear hb2; obtain ⟨a0, a1, a2, b0, b1, b2⟩ := HV.out _ HB2.out)
        | (go_at_call 11; with_reducible refine Calls.mono (may_walk k n t _) ?_; rintro e w3 ⟨rfl, hb3⟩; have HB3 := hide (below_trans HB2.out hb3); clear hb3; obtain ⟨a0, a1, a2, b0, b1, b2⟩ := HV.out _ HB3.out)
        | (go_at_call 18; with_reducible refine Calls.mono (HRd.out _ (HE.out _ HB3.out)) ?_; rintro e w4 ⟨rfl, hb4⟩; have HB4 := hide (below_trans HB3.out hb4); clear hb4))
      go_ret
      exact ⟨rfl, HB0.out _ (below_trans HB4.out (new_below w4 _ rfl))⟩
    · have hr2 := guessN_range s.data.toList
      have hmB2 : mayB k2 n2 t2 = true := by simp [mayB, hm2]
      have HP2 : Hid (∀ V, Env V → Calls Tryd.prog 16 #[.agg #[.int .i64 k2, .int .i64 n2, .string t2]] V fun e w' => e = .returned (.tuple #[.string s, .int .i64 0]) ∧ Below V.heap.size V w') := by
        intro V hV
        refine (print_may k2 n2 t2 (by rw [hn2]; exact hr2.1) (by rw [hn2]; exact hr2.2) hm2 V hV).mono ?_
        rintro e w' ⟨rfl, hb⟩
        refine ⟨?_, hb⟩
        rw [hp2]
      clear hm2 hp2 hk2 hn2 ht2 hr2
      go_enter Tryd.func6, Tryd.ntmps6
      go_wp2_with (first
        | (go_at_call 7; with_reducible refine Calls.mono (head_walk _ HE0.out) ?_; rintro e w1 ⟨rfl, hb1⟩; obtain ⟨a0, a1, a2, b0, b1, b2⟩ := HV.out _ hb1; have HB1 := hide hb1; clear hb1)
        | (go_at_call 16; with_reducible refine Calls.mono (HP.out _) ?_; rintro e w2 ⟨rfl, hb2⟩; have HB2 := hide (below_trans HB1.out hb2); clear hb2; obtain ⟨a0, a1, a2, b0, b1, b2⟩ := HV.out _ HB2.out)
        | (go_at_call 11; with_reducible refine Calls.mono (may_walk k n t _) ?_; rintro e w3 ⟨rfl, hb3⟩; have HB3 := hide (below_trans HB2.out hb3); clear hb3; obtain ⟨a0, a1, a2, b0, b1, b2⟩ := HV.out _ HB3.out)
        | (go_at_call 16; with_reducible refine Calls.mono (HP2.out _ (HE4.out.below (new_below w4 _ rfl))) ?_; rintro e w5 ⟨rfl, hb5⟩; obtain ⟨g0, g1, g2, q0, q1, q2⟩ := later_block w4 (.int .i64 k2) (.int .i64 n2) (.string t2) 31 _ hb5; have HB5 := hide (below_trans HB4.out (below_trans (new_below w4 _ rfl) hb5)); clear hb5)
        | (go_at_call 11; with_reducible refine Calls.mono (may_walk k2 n2 t2 _) ?_; rintro e w6 ⟨rfl, hb6⟩; have HB6 := hide (below_trans HB5.out hb6); clear hb6)
        | (go_at_call 18; with_reducible refine Calls.mono (HRd.out _ (HE.out _ HB3.out)) ?_; rintro e w4 ⟨rfl, hb4⟩; have HB4 := hide (below_trans HB3.out hb4); clear hb4; have HE4 := hide (HE.out _ HB4.out)))
      go_ret
      exact ⟨rfl, HB0.out _ HB6.out⟩
    · go_enter Tryd.func6, Tryd.ntmps6
      go_wp2_with (first
        | (go_at_call 7; with_reducible refine Calls.mono (head_walk _ HE0.out) ?_; rintro e w1 ⟨rfl, hb1⟩; obtain ⟨a0, a1, a2, b0, b1, b2⟩ := HV.out _ hb1; have HB1 := hide hb1; clear hb1)
        | (go_at_call 16; with_reducible refine Calls.mono (HP.out _) ?_; rintro e w2 ⟨rfl, hb2⟩; have HB2 := hide (below_trans HB1.out hb2); clear hb2; obtain ⟨a0, a1, a2, b0, b1, b2⟩ := HV.out _ HB2.out)
        | (go_at_call 11; with_reducible refine Calls.mono (may_walk k n t _) ?_; rintro e w3 ⟨rfl, hb3⟩; have HB3 := hide (below_trans HB2.out hb3); clear hb3; obtain ⟨a0, a1, a2, b0, b1, b2⟩ := HV.out _ HB3.out)
        | (go_at_call 18; with_reducible refine Calls.mono (HRd.out _ (HE.out _ HB3.out)) ?_; rintro e w4 ⟨rfl, hb4⟩; have HB4 := hide (below_trans HB3.out hb4); clear hb4))
      go_ret
      exact ⟨rfl, HB0.out _ (below_trans HB4.out (new_below w4 _ rfl))⟩
end Go.Proofs.YtghemaghbpekfaaDoor
