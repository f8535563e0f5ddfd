/- The type and the bytes of any value that may be. -/
import Derived.Test.YtfjmoiooonialaaFA
import Derived.LoopN
namespace Go.Proofs.Ytfjmoiooonialaa
open Go.ChangeShapes Go.WideShapes Go.ChangeAt Go.RowKit
set_option linter.unusedVariables false

theorem may_cases {k n : Int} {t : ByteArray} (h : mayB k n t = true) : (k = 0 ∧ n = 0 ∧ t = ⟨#[]⟩) ∨ (k = 1 ∧ t = ⟨#[]⟩) ∨ ((k = 2 ∨ k = 3) ∧ n = 0 ∧ t.size ≤ 400) := by
  have hm : MayL k n t.data.toList := of_decide_eq_true h
  have he : t.data.toList = [] → t = ⟨#[]⟩ := fun e => ByteArray.ext (by simpa using e)
  rcases hm with ⟨h1, h2, h3⟩ | ⟨h1, h2⟩ | ⟨h1, h2, h3⟩
  · exact .inl ⟨h1, h2, he h3⟩
  · exact .inr (.inl ⟨h1, he h2⟩)
  · exact .inr (.inr ⟨h1, h2, by simpa using h3⟩)
theorem may_size {k n : Int} {t : ByteArray} (h : mayB k n t = true) : t.size ≤ 400 := by
  rcases may_cases h with ⟨_, _, rfl⟩ | ⟨_, rfl⟩ | ⟨_, _, h⟩
  · decide
  · decide
  · exact h
theorem typN_lt {k n : Int} {t : ByteArray} (h : mayB k n t = true) (hn : InI n) : typN k n t ≤ 813 := by
  have := may_size h
  have := widN_le hn
  unfold typN
  repeat' split
  all_goals omega

set_option maxHeartbeats 1000000 in
set_option maxRecDepth 10000 in
theorem type_walk (k n : Int) (t : ByteArray) (hm : mayB k n t = true) (hn : InI n) (w : World) : Calls Try.prog 23 #[val k n t] w fun e w' => e = .returned (.int .u64 (typN k n t : Int)) ∧ Below w.heap.size w w' := by
  rcases may_cases hm with ⟨rfl, rfl, rfl⟩ | ⟨rfl, rfl⟩ | ⟨h2 | h3, rfl, hs⟩
  · clear hm
    go_enter Try.func23, Try.ntmps23
    go_wp2
    go_ret
    exact ⟨rfl, by go_grown⟩
  · clear hm
    by_cases h0 : n = 0
    · subst h0
      go_enter Try.func23, Try.ntmps23
      go_wp2
      go_ret
      exact ⟨rfl, by go_grown⟩
    by_cases h1 : n = 1
    · subst h1
      go_enter Try.func23, Try.ntmps23
      go_wp2
      go_ret
      exact ⟨rfl, by go_grown⟩
    have HT : Hid (typN 1 n ⟨#[]⟩ = widN n) := by show _ = _; unfold typN; rw [if_pos rfl, if_neg h0, if_neg h1]
    have HW : Hid (∀ V, Calls Try.prog 36 #[.int .i64 n] V fun e w' => e = .returned (.int .i64 (widN n : Int)) ∧ V = w') := fun V => width_walk n hn V
    have hw := widN_le hn
    have x1 : ((widN n : Nat) : Int) % 18446744073709551616 = (widN n : Int) := by omega
    generalize widN n = W at HT HW hw x1
    have g0 : (n == 0) = false := by simp [h0]
    have g1 : (n == 1) = false := by simp [h1]
    go_enter Try.func23, Try.ntmps23
    go_wp2_with (first
      | (go_at_call 36; with_reducible refine Calls.mono (HW.out _) ?_; rintro e w1 ⟨rfl, rfl⟩))
    go_ret
    exact ⟨by rw [HT.out]; rfl, by go_grown⟩
  · subst h2
    have HT : Hid (typN 2 0 t = 13 + 2 * t.size) := by show _ = _; unfold typN; rw [if_neg (by decide), if_pos rfl]
    clear hm hn
    have x1 : (t.size : Int) % 18446744073709551616 = (t.size : Int) := by omega
    have x2 : IntKind.u64.wrap (2 * (t.size : Int)) = 2 * (t.size : Int) := by rw [IntKind.wrap_u64]; omega
    have x3 : IntKind.u64.wrap (13 + 2 * (t.size : Int)) = 13 + 2 * (t.size : Int) := by rw [IntKind.wrap_u64]; omega
    have x4 : (2 * (t.size : Int)) % 18446744073709551616 = 2 * (t.size : Int) := by omega
    have x5 : (13 + 2 * (t.size : Int)) % 18446744073709551616 = 13 + 2 * (t.size : Int) := by omega
    go_enter Try.func23, Try.ntmps23
    go_wp2
    go_ret
    refine ⟨by rw [HT.out]; simp, by go_grown⟩
  · subst h3
    have HT : Hid (typN 3 0 t = 12 + 2 * t.size) := by show _ = _; unfold typN; rw [if_neg (by decide), if_neg (by decide), if_pos rfl]
    clear hm hn
    have x1 : (t.size : Int) % 18446744073709551616 = (t.size : Int) := by omega
    have x2 : IntKind.u64.wrap (2 * (t.size : Int)) = 2 * (t.size : Int) := by rw [IntKind.wrap_u64]; omega
    have x3 : IntKind.u64.wrap (12 + 2 * (t.size : Int)) = 12 + 2 * (t.size : Int) := by rw [IntKind.wrap_u64]; omega
    have x4 : (2 * (t.size : Int)) % 18446744073709551616 = 2 * (t.size : Int) := by omega
    have x5 : (12 + 2 * (t.size : Int)) % 18446744073709551616 = 12 + 2 * (t.size : Int) := by omega
    go_enter Try.func23, Try.ntmps23
    go_wp2
    go_ret
    refine ⟨by rw [HT.out]; simp, by go_grown⟩
end Go.Proofs.Ytfjmoiooonialaa
