/- Read. -/
import Derived.Test.YtghemaghbpekfaaGreatDoorVG
namespace Go.Proofs.YtghemaghbpekfaaGreatDoor
open Go.ChangeShapes Go.WideShapes Go.ChangeAt Go.RowKit
set_option linter.unusedVariables false

theorem numL_range (s : List UInt8) : -9223372036854775808 ≤ numL s ∧ numL s ≤ 9223372036854775807 := by
  unfold numL
  split
  · rename_i v h
    unfold Lib.parseIntB at h
    split at h
    · cases h
    · simp only at h
      split at h
      · cases h
      · cases h
      · split at h
        · cases h
        · split at h
          · cases h
          · rename_i h1 h2
            injection h with h
            subst h
            split <;> rename_i hn <;> simp only [hn, not_true, not_false_iff, true_and, false_and] at h1 h2 <;> omega
  · omega
  · unfold Lib.intSat
    split <;> decide

theorem guessN_range (s : List UInt8) : -9223372036854775808 ≤ guessN s ∧ guessN s ≤ 9223372036854775807 := by
  unfold guessN
  split
  · omega
  split
  · omega
  split
  · omega
  exact numL_range s

/-- What Read answers. -/
def readsAs (s : List UInt8) (k n : Int) (t : List UInt8) (c : Int) : Prop :=
  (1000 < s.length ∧ k = 0 ∧ n = 0 ∧ t = [] ∧ c = 3) ∨
  (s.length ≤ 1000 ∧ MayL k n t ∧ printL k n t = s ∧ k = guessK s ∧ n = guessN s ∧ t = guessT s ∧ c = 0) ∨
  (s.length ≤ 1000 ∧ ¬ (MayL (guessK s) (guessN s) (guessT s) ∧ printL (guessK s) (guessN s) (guessT s) = s) ∧ k = 0 ∧ n = 0 ∧ t = [] ∧ c = 120)

set_option maxHeartbeats 1000000 in
set_option maxRecDepth 10000 in
theorem read_long (s : ByteArray) (hs : 1000 < s.size) (w : World) : Calls Tryz.prog 15 #[.string s] w fun e w' =>
    e = .returned (.tuple #[val 0 0 ⟨#[]⟩, .int .i64 3]) ∧ Below w.heap.size w w' := by
  have h1 : (1000 : Int) < (s.size : Int) := by omega
  go_enter Tryz.func15, Tryz.ntmps15
  go_wp2
  go_returns
  exact ⟨rfl, new_below w _ rfl⟩

/-- A value and a number come back: the value out of a result's own block. -/
theorem ret_val2 {w1 : World} {g : Nat} {x y z : Value} {fn : Func} (hres : fn.results = #[.cell 2 24, .tmp 3]) {tmps : Array Value} (ht : tmps.getD 2 undef = .pointer (some ⟨g, 0, none⟩)) {u : Value} (hu : tmps.getD 3 undef = u)
    (hb : w1.heap[g]? = some (.cells #[x, y, z] 24 (0, 0))) {a b c : Value} {R : Ending → World → Prop}
    (h : R (.returned (.tuple #[.agg #[a, b, c], u])) (((w1.setCell ⟨g, 0, none⟩ a).setCell ⟨g, 1, none⟩ b).setCell ⟨g, 2, none⟩ c)) :
    bodyPost Tryz.prog fn R Exit.ret { tmps := tmps, defers := [] } (((w1.setCell ⟨g, 0, none⟩ a).setCell ⟨g, 1, none⟩ b).setCell ⟨g, 2, none⟩ c) := by
  have hs := set_block (set_block (set_block hb 0 a) 1 b) 2 c
  have hl := run_loadVar_row (P := Tryz.prog) (((w1.setCell ⟨g, 0, none⟩ a).setCell ⟨g, 1, none⟩ b).setCell ⟨g, 2, none⟩ c) g 24 24 #[a, b, c] (0, 0) _ (by simpa using hs) Tryz.underlying24 rfl infoV
  refine bodyPost_ret (v := .tuple #[.agg #[a, b, c], u]) ?_ rfl h
  have ht' : tmps[2]?.getD undef = .pointer (some ⟨g, 0, none⟩) := by simpa using ht
  have hu' : tmps[3]?.getD undef = u := by simpa using hu
  simp [results, hres, ht', hu', asAddr, hl]

/-- Two blocks behind two calls: the result's own and a value's. -/
theorem two_blocks (w : World) (a b c x y z : Value) (T : TypeId) {w1 w2 : World} (h1 : Below (w.alloc (.cells #[a, b, c] T)).heap.size (w.alloc (.cells #[a, b, c] T)) w1)
    (h2 : Below (w1.alloc (.cells #[x, y, z] T)).heap.size (w1.alloc (.cells #[x, y, z] T)) w2) :
    w2.heap[w.heap.size]? = some (.cells #[a, b, c] T (0, 0)) ∧ w2.heap[w1.heap.size]? = some (.cells #[x, y, z] T (0, 0)) ∧ Below w.heap.size w w2 := by
  have hB := below_trans (new_below w1 _ rfl) h2
  refine ⟨?_, res_block w1 _ _ _ _ h2, below_trans (new_below w _ rfl) (below_trans h1 hB)⟩
  have hlt : w.heap.size < w1.heap.size := by have := h1.size; simp at this; omega
  rw [hB.block _ hlt]
  exact res_block w _ _ _ _ h1

set_option maxHeartbeats 1000000 in
set_option maxRecDepth 10000 in
theorem read_short (s : ByteArray) (hs : s.size ≤ 1000) (w : World) (hE : Env w) : Calls Tryz.prog 15 #[.string s] w fun e w' =>
    ∃ k n t c, e = .returned (.tuple #[val k n t, .int .i64 c]) ∧ readsAs s.data.toList k n t.data.toList c ∧ Below w.heap.size w w' := by
  have h1 : ¬ (1000 : Int) < (s.size : Int) := by omega
  have hl : s.data.toList.length ≤ 1000 := by simpa using hs
  have HG : Hid (∀ V, Env V → Calls Tryz.prog 32 #[.string s] V fun e w' => e = .returned (val (guessK s.data.toList) (guessN s.data.toList) ⟨(guessT s.data.toList).toArray⟩) ∧ Below V.heap.size V w') := fun V hV => guess_walk s hs V hV
  obtain ⟨k, hk⟩ : ∃ k, guessK s.data.toList = k := ⟨_, rfl⟩
  obtain ⟨n, hn⟩ : ∃ n, guessN s.data.toList = n := ⟨_, rfl⟩
  obtain ⟨t, ht⟩ : ∃ t : ByteArray, (⟨(guessT s.data.toList).toArray⟩ : ByteArray) = t := ⟨_, rfl⟩
  have hr := guessN_range s.data.toList
  have htl : guessT s.data.toList = t.data.toList := by rw [← ht]
  rw [hk, hn, ht] at HG
  rw [hn] at hr
  obtain ⟨r0, r1⟩ := hr
  have HE : Hid (Env (w.alloc (.cells #[.int .i64 0, .int .i64 0, .string ⟨#[]⟩] 24))) := hE.below (new_below w _ rfl)
  have HW : Hid (∀ w1 w2, Below (w.alloc (.cells #[.int .i64 0, .int .i64 0, .string ⟨#[]⟩] 24)).heap.size (w.alloc (.cells #[.int .i64 0, .int .i64 0, .string ⟨#[]⟩] 24)) w1 →
      Below (w1.alloc (.cells #[.int .i64 k, .int .i64 n, .string t] 24)).heap.size (w1.alloc (.cells #[.int .i64 k, .int .i64 n, .string t] 24)) w2 →
      w2.cell? ⟨w.heap.size, 0, none⟩ = some (.int .i64 0) ∧ w2.cell? ⟨w.heap.size, 1, none⟩ = some (.int .i64 0) ∧ w2.cell? ⟨w.heap.size, 2, none⟩ = some (.string ⟨#[]⟩) ∧ w2.frozen? ⟨w.heap.size, 0, none⟩ = false ∧ w2.frozen? ⟨w.heap.size, 1, none⟩ = false ∧ w2.frozen? ⟨w.heap.size, 2, none⟩ = false ∧
      w2.cell? ⟨w1.heap.size, 0, none⟩ = some (.int .i64 k) ∧ w2.cell? ⟨w1.heap.size, 1, none⟩ = some (.int .i64 n) ∧ w2.cell? ⟨w1.heap.size, 2, none⟩ = some (.string t) ∧
      Hid (w2.heap[w.heap.size]? = some (.cells #[.int .i64 0, .int .i64 0, .string ⟨#[]⟩] 24 (0, 0))) ∧ Hid (Below w.heap.size w w2)) := by
    intro w1 w2 hb1 hb2
    obtain ⟨hR, hV, hB⟩ := two_blocks w _ _ _ _ _ _ _ hb1 hb2
    obtain ⟨d0, d1, d2, f0, f1, f2⟩ := res_facts hR
    obtain ⟨e0, e1, e2, _, _, _⟩ := res_facts hV
    exact ⟨d0, d1, d2, f0, f1, f2, e0, e1, e2, hR, hB⟩
  have HE2 : Hid (∀ w1, Below (w.alloc (.cells #[.int .i64 0, .int .i64 0, .string ⟨#[]⟩] 24)).heap.size (w.alloc (.cells #[.int .i64 0, .int .i64 0, .string ⟨#[]⟩] 24)) w1 → Env (w1.alloc (.cells #[.int .i64 k, .int .i64 n, .string t] 24))) :=
    fun w1 hb => (HE.out.below hb).below (new_below w1 _ rfl)
  by_cases hm : MayL k n t.data.toList
  · have HP : Hid (∀ V, Env V → Calls Tryz.prog 27 #[val k n t] V fun e w' => e = .returned (.tuple #[.string ⟨(printL k n t.data.toList).toArray⟩, .int .i64 0]) ∧ Below V.heap.size V w') := fun V hV => print_may k n t r0 r1 hm V hV
    obtain ⟨X, hX⟩ : ∃ X : ByteArray, (⟨(printL k n t.data.toList).toArray⟩ : ByteArray) = X := ⟨_, rfl⟩
    rw [hX] at HP
    have hXl : printL k n t.data.toList = X.toList := by rw [ByteArray.toList_eq, ← hX]
    have hsl : s.toList = s.data.toList := by rw [ByteArray.toList_eq]
    by_cases hq : X.toList = s.toList
    · have HOK : Hid (readsAs s.data.toList k n t.data.toList 0) := .inr (.inl ⟨hl, hm, by rw [hXl, hq, hsl], hk.symm, hn.symm, htl.symm, rfl⟩)
      have hq2 : (X.toList == s.toList) = true := by simpa using hq
      clear hXl hsl hm hX
      go_enter Tryz.func15, Tryz.ntmps15
      go_wp2_with (first
        | (go_at_call 32; with_reducible refine Calls.mono (HG.out _ HE.out) ?_; rintro e w1 ⟨rfl, hb1⟩)
        | (go_at_call 27; with_reducible refine Calls.mono (HP.out _ (HE2.out _ hb1)) ?_; rintro e w2 ⟨rfl, hb2⟩; obtain ⟨d0, d1, d2, f0, f1, f2, e0, e1, e2, HR, HB⟩ := HW.out _ _ hb1 hb2; clear hb1 hb2))
      exact ret_val2 Tryz.results15 rfl rfl HR.out ⟨k, n, t, 0, rfl, HOK.out, below_set3 HB.out _ _ _⟩
    · have HNO : Hid (readsAs s.data.toList 0 0 (⟨#[]⟩ : ByteArray).data.toList 120) := .inr (.inr ⟨hl, fun ⟨_, h⟩ => hq (by rw [← hXl, hsl]; rw [hk, hn, htl] at h; exact h), rfl, rfl, rfl, rfl⟩)
      have hq2 : (X.toList == s.toList) = false := by simpa using hq
      clear hXl hsl hm hX
      go_enter Tryz.func15, Tryz.ntmps15
      go_wp2_with (first
        | (go_at_call 32; with_reducible refine Calls.mono (HG.out _ HE.out) ?_; rintro e w1 ⟨rfl, hb1⟩)
        | (go_at_call 27; with_reducible refine Calls.mono (HP.out _ (HE2.out _ hb1)) ?_; rintro e w2 ⟨rfl, hb2⟩; obtain ⟨d0, d1, d2, f0, f1, f2, e0, e1, e2, HR, HB⟩ := HW.out _ _ hb1 hb2; clear hb1 hb2))
      exact ret_val2 Tryz.results15 rfl rfl HR.out ⟨0, 0, ⟨#[]⟩, 120, rfl, HNO.out, below_set3 HB.out _ _ _⟩
  · have HP : Hid (∀ V, Calls Tryz.prog 27 #[val k n t] V fun e w' => e = .returned (.tuple #[.string ⟨#[]⟩, .int .i64 2]) ∧ Below V.heap.size V w') := fun V => print_no k n t hm V
    have HNO : Hid (readsAs s.data.toList 0 0 (⟨#[]⟩ : ByteArray).data.toList 120) := .inr (.inr ⟨hl, fun ⟨h, _⟩ => hm (by rw [hk, hn, htl] at h; exact h), rfl, rfl, rfl, rfl⟩)
    clear hm
    go_enter Tryz.func15, Tryz.ntmps15
    go_wp2_with (first
      | (go_at_call 32; with_reducible refine Calls.mono (HG.out _ HE.out) ?_; rintro e w1 ⟨rfl, hb1⟩)
      | (go_at_call 27; with_reducible refine Calls.mono (HP.out _) ?_; rintro e w2 ⟨rfl, hb2⟩; obtain ⟨d0, d1, d2, f0, f1, f2, e0, e1, e2, HR, HB⟩ := HW.out _ _ hb1 hb2; clear hb1 hb2))
    exact ret_val2 Tryz.results15 rfl rfl HR.out ⟨0, 0, ⟨#[]⟩, 120, rfl, HNO.out, below_set3 HB.out _ _ _⟩

theorem read_walk (s : ByteArray) (w : World) (hE : Env w) : Calls Tryz.prog 15 #[.string s] w fun e w' =>
    ∃ k n t c, e = .returned (.tuple #[val k n t, .int .i64 c]) ∧ readsAs s.data.toList k n t.data.toList c ∧ Below w.heap.size w w' := by
  by_cases h : s.size ≤ 1000
  · exact read_short s h w hE
  · refine (read_long s (by omega) w).mono ?_
    rintro e w1 ⟨rfl, hb⟩
    exact ⟨0, 0, ⟨#[]⟩, 3, rfl, .inl ⟨by simp; omega, rfl, rfl, rfl, rfl⟩, hb⟩
end Go.Proofs.YtghemaghbpekfaaGreatDoor
