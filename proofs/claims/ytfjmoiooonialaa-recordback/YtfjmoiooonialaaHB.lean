/- The document's Shape and Encode of any row. -/
import Derived.Test.YtfjmoiooonialaaHA
import Derived.Test.YtfjmoiooonialaaFF
namespace Go.Proofs.Ytfjmoiooonialaa
open Go.ChangeShapes Go.WideShapes Go.ChangeAt Go.RowKit
set_option linter.unusedVariables false

theorem valL_text {k n : Int} {t : ByteArray} (h : 8 < typN k n t) : valL k n t = t.data.toList := by
  unfold valL
  rw [if_neg (by omega), List.nil_append]
theorem valL_int {n : Int} (h : typN 1 n ⟨#[]⟩ = widN n) (hn : InI n) : valL 1 n ⟨#[]⟩ = loN n (widN n) := by
  unfold valL
  rw [h, if_pos (widN_le hn), be_all]
  simp
set_option maxHeartbeats 2000000 in
set_option maxRecDepth 10000 in
theorem shape_walk (k n : Int) (t : ByteArray) (hm : mayB k n t = true) (hn : InI n) (w : World) : Calls Try.prog 26 #[val k n t] w fun e w' => e = .returned (.tuple #[.int .i64 (typN k n t : Int), .string ⟨(valL k n t).toArray⟩]) ∧ Below w.heap.size w w' := by
  rcases may_cases hm with ⟨rfl, rfl, rfl⟩ | ⟨rfl, rfl⟩ | ⟨h2 | h3, rfl, hs⟩
  · clear hm
    go_enter Try.func26, Try.ntmps26
    go_wp2
    go_ret2
    exact ⟨rfl, by go_grown⟩
  · clear hm
    by_cases h0 : n = 0
    · subst h0
      go_enter Try.func26, Try.ntmps26
      go_wp2
      go_ret2
      exact ⟨rfl, by go_grown⟩
    by_cases h1 : n = 1
    · subst h1
      go_enter Try.func26, Try.ntmps26
      go_wp2
      go_ret2
      exact ⟨rfl, by go_grown⟩
    have hT : typN 1 n ⟨#[]⟩ = widN n := by unfold typN; rw [if_pos rfl, if_neg h0, if_neg h1]
    have HV := hide (valL_int hT hn)
    have HT := hide hT
    obtain ⟨S, hS⟩ : ∃ S : ByteArray, S = ⟨(loN n (widN n)).toArray⟩ := ⟨_, rfl⟩
    have HS := hide hS
    have HZ : Hid (S.size = widN n) := by show _ = _; rw [hS, szL, loN_length]
    have HW : Hid (∀ V, Calls Try.prog 37 #[.int .i64 n] V fun e w' => e = .returned (.string S) ∧ Below V.heap.size V w') := fun V => by rw [hS]; exact rBytes_walk n hn V
    have g0 : (n == 0) = false := by simp [h0]
    have g1 : (n == 1) = false := by simp [h1]
    have HN := hide (new_below w (.cells #[.int .i64 1, .int .i64 n, .string ⟨#[]⟩] 46) rfl)
    clear hT hS hn
    go_enter Try.func26, Try.ntmps26
    go_wp2_with (first
      | (go_at_call 37; with_reducible refine Calls.mono (HW.out _) ?_; rintro e w1 ⟨rfl, hb⟩; have HX := hide (below_trans HN.out hb); clear hb))
    go_ret2
    exact ⟨by rw [HT.out, HV.out, ← HS.out, ← HZ.out]; rfl, HX.out⟩
  · subst h2
    have hT : typN 2 0 t = 13 + 2 * t.size := by unfold typN; rw [if_neg (by decide), if_pos rfl]
    have HV := hide (valL_text (k := 2) (n := 0) (t := t) (by omega))
    have HT := hide hT
    have x2 : IntKind.i64.wrap (2 * (t.size : Int)) = 2 * (t.size : Int) := by rw [IntKind.wrap_i64]; omega
    have x3 : IntKind.i64.wrap (13 + 2 * (t.size : Int)) = 13 + 2 * (t.size : Int) := by rw [IntKind.wrap_i64]; omega
    clear hm hn hT
    go_enter Try.func26, Try.ntmps26
    go_wp2
    go_region
    all_goals (try go_wp2)
    all_goals go_ret2
    all_goals exact ⟨by rw [HT.out, HV.out]; simp, by go_grown⟩
  · subst h3
    have hT : typN 3 0 t = 12 + 2 * t.size := by unfold typN; rw [if_neg (by decide), if_neg (by decide), if_pos rfl]
    have HV := hide (valL_text (k := 3) (n := 0) (t := t) (by omega))
    have HT := hide hT
    have x2 : IntKind.i64.wrap (2 * (t.size : Int)) = 2 * (t.size : Int) := by rw [IntKind.wrap_i64]; omega
    have x3 : IntKind.i64.wrap (12 + 2 * (t.size : Int)) = 12 + 2 * (t.size : Int) := by rw [IntKind.wrap_i64]; omega
    clear hm hn hT
    go_enter Try.func26, Try.ntmps26
    go_wp2
    go_region
    all_goals (try go_wp2)
    all_goals go_ret2
    all_goals exact ⟨by rw [HT.out, HV.out]; simp, by go_grown⟩
end Go.Proofs.Ytfjmoiooonialaa
