/- The document's bytes of an integer. -/
import Derived.Test.YtfjmoiooonialaaFC
import Derived.Test.YtfjmoiooonialaaSE
namespace Go.Proofs.Ytfjmoiooonialaa
open Go.ChangeShapes Go.WideShapes Go.ChangeAt Go.RowKit
set_option linter.unusedVariables false

/-- The k lowest bytes. -/
def loN (x : Int) : Nat → List UInt8
  | 0 => []
  | k + 1 => byteN x k :: loN x k
theorem loN_length (x : Int) (k : Nat) : (loN x k).length = k := by
  induction k with
  | zero => rfl
  | succ k ih => simp [loN, ih]
theorem be_lo (x : Int) (T m : Nat) (h : m ≤ T) : beN x T m ++ loN x (T - m) = loN x T := by
  induction m with
  | zero => simp [beN]
  | succ m ih =>
    have e : T - m = (T - (m + 1)) + 1 := by omega
    have := ih (by omega)
    rw [e, loN] at this
    rw [beN, List.append_assoc]
    exact this
theorem be_all (x : Int) (T : Nat) : beN x T T = loN x T := by
  have := be_lo x T T (Nat.le_refl _)
  rw [Nat.sub_self] at this
  simpa [loN] using this
theorem shr8 (x : Int) (k : Nat) : x / 2 ^ (8 * k) / 256 = x / 2 ^ (8 * (k + 1)) := by
  rw [Int.ediv_ediv_of_nonneg (Int.le_of_lt (Int.pow_pos (by decide))), show 8 * (k + 1) = 8 * k + 8 by omega, Int.pow_add]
  rfl
theorem shr_in {x : Int} (h : InI x) (k : Nat) : InI (x / 2 ^ (8 * k)) := by
  induction k with
  | zero => simpa using h
  | succ k ih =>
    rw [← shr8]
    unfold InI at *
    omega

set_option maxHeartbeats 1000000 in
set_option maxRecDepth 10000 in
theorem rbytes_walk (x : Int) (n : Nat) (hx : InI x) (hn : n ≤ 8) (w : World) : Calls Try.prog 40 #[.int .i64 x, .int .i64 (n : Int)] w fun e w' => e = .returned (.string ⟨(loN x n).toArray⟩) ∧ Below w.heap.size w w' := by
  go_enter Try.func40, Try.ntmps40
  go_wp2
  go_loopw [0, 5, 6] (fun xv sv iv wr => ∃ k : Nat, k ≤ n ∧ xv = .int .i64 (x / 2 ^ (8 * k)) ∧ sv = .string ⟨(loN x k).toArray⟩ ∧ iv = .int .i64 (k : Int) ∧ Below w.heap.size w wr) (fun _ _ iv _ => n - (intOf iv).toNat)
  case atStart => exact ⟨0, Nat.zero_le _, by simp, rfl, rfl, Below.refl _ _⟩
  case round =>
    obtain ⟨k, hk, rfl, rfl, rfl, hbel⟩ := hrel
    have HB := hide hbel
    clear hbel
    have hin := shr_in hx k
    obtain ⟨q, hq⟩ : ∃ q, x / 2 ^ (8 * k) = q := ⟨_, rfl⟩
    have HQ := hide hq
    have HBy : Hid (((byteN x k).toNat : Int) = q % 256) := by show _ = _; rw [byte_eq, hq]
    have HSh : Hid (x / 2 ^ (8 * (k + 1)) = q / 256) := by show _ = _; rw [← shr8, hq]
    rw [hq] at hin ⊢
    clear hq
    by_cases hlt : k < n
    · have l1 : (k : Int) < (n : Int) := by omega
      have hw1 : IntKind.i64.wrap ((k : Int) + 1) = (k : Int) + 1 := by rw [IntKind.wrap_i64]; omega
      obtain ⟨b, hb⟩ : ∃ b, byteN x k = b := ⟨_, rfl⟩
      obtain ⟨S, hS⟩ : ∃ S : ByteArray, (⟨(loN x k).toArray⟩ : ByteArray) = S := ⟨_, rfl⟩
      obtain ⟨S2, hS2⟩ : ∃ S : ByteArray, (⟨(loN x (k + 1)).toArray⟩ : ByteArray) = S := ⟨_, rfl⟩
      have hadd : ∀ V, (Op.stringOp BinOp.add ⟨#[b]⟩ S).run Try.prog V = .ok (.string S2) V := fun V => by
        have h := cat_run b (loN x k) (by rw [loN_length]; omega) V
        rw [← hS2, ← hS, loN, hb]
        exact h
      have hcq := fun w => conv_one w b
      have hxv : q % 256 = (b.toNat : Int) := by rw [← HBy.out, hb]
      have HS2 := hide hS2
      rw [hS]
      unfold InI at hin
      clear hS hS2 hb
      go_wp2
      refine ⟨⟨k + 1, hlt, ?_, ?_, rfl, bl_alloc1 HB.out _⟩, ?_⟩
      · rw [HSh.out]
      · rw [HS2.out]
      · simp only [intOf]; omega
    · have l1 : ¬ (k : Int) < (n : Int) := by omega
      obtain rfl : n = k := by omega
      go_wp2_with fail
      go_ret
      exact ⟨rfl, HB.out⟩

theorem fit_iff (x : Int) (h : InI x) (j : Nat) (hj : 1 ≤ j) : widN x ≤ j ↔ magN x < 2 ^ (8 * j - 1) := by
  have e : Lib.bitLen (magN x) ≤ 8 * j - 1 ↔ magN x < 2 ^ (8 * j - 1) := bl_le 64 (magN x) (8 * j - 1) (by have := magN_lt h; omega)
  rw [← e]
  unfold widN
  omega
set_option maxHeartbeats 4000000 in
set_option maxRecDepth 10000 in
theorem rBytes_walk (x : Int) (hx : InI x) (w : World) : Calls Try.prog 37 #[.int .i64 x] w fun e w' => e = .returned (.string ⟨(loN x (widN x)).toArray⟩) ∧ Below w.heap.size w w' := by
  have HBw : Hid (∀ (n : Nat), n ≤ 8 → ∀ V, Calls Try.prog 40 #[.int .i64 x, .int .i64 (n : Int)] V fun e w' => e = .returned (.string ⟨(loN x n).toArray⟩) ∧ Below V.heap.size V w') := fun n hn V => rbytes_walk x n hx hn V
  have h8 := widN_le hx
  have h1 := widN_pos x
  have f1 := fit_iff x hx 1 (by omega)
  have f2 := fit_iff x hx 2 (by omega)
  have f3 := fit_iff x hx 3 (by omega)
  have f4 := fit_iff x hx 4 (by omega)
  have f5 := fit_iff x hx 5 (by omega)
  have f6 := fit_iff x hx 6 (by omega)
  have f7 := fit_iff x hx 7 (by omega)
  simp only [Nat.reduceMul, Nat.reduceSub, Nat.reducePow] at f1 f2 f3 f4 f5 f6 f7
  have hmag : (0 ≤ x → (magN x : Int) = x) ∧ (x < 0 → (magN x : Int) = -x - 1) := by
    unfold magN
    constructor
    · intro h; rw [if_pos h]; omega
    · intro h; rw [if_neg (by omega)]; omega
  generalize widN x = T at *
  generalize magN x = M at *
  have HF := hide (And.intro (And.intro f1 (And.intro f2 (And.intro f3 (And.intro f4 (And.intro f5 (And.intro f6 f7)))))) hmag)
  unfold InI at hx
  clear f1 f2 f3 f4 f5 f6 f7 hmag
  go_enter Try.func37, Try.ntmps37
  go_wp2
  go_loopw [3] (fun iv wr => ∃ j : Nat, 1 ≤ j ∧ j ≤ T ∧ iv = .int .i64 (j : Int) ∧ Below w.heap.size w wr) (fun iv _ => 8 - (intOf iv).toNat)
  case atStart => exact ⟨1, Nat.le_refl _, h1, rfl, Below.refl _ _⟩
  case round =>
    obtain ⟨j, hj1, hjT, rfl, hbel⟩ := hrel
    have HB := hide hbel
    clear hbel
    have hj : j = 1 ∨ j = 2 ∨ j = 3 ∨ j = 4 ∨ j = 5 ∨ j = 6 ∨ j = 7 ∨ j = 8 := by omega
    rcases hj with rfl | rfl | rfl | rfl | rfl | rfl | rfl | rfl
    · have HR : Hid (∀ V, Calls Try.prog 40 #[.int .i64 x, .int .i64 1] V fun e w' => e = .returned (.string ⟨(loN x 1).toArray⟩) ∧ Below V.heap.size V w') := fun V => HBw.out 1 (by omega) V
      obtain ⟨⟨f1, f2, f3, f4, f5, f6, f7⟩, m0, m1⟩ := HF.out
      by_cases hT : T = 1
      · subst hT
        have hM : M < 128 := f1.1 (Nat.le_refl _)
        by_cases s0 : 0 ≤ x
        · have e : x / 128 = 0 := by have := m0 s0; omega
          clear f1 f2 f3 f4 f5 f6 f7 m0 m1 hM h8 h1 hj1 hjT
          go_wp2_with (first
            | (go_at_call 40; with_reducible refine Calls.mono (HR.out _) ?_; rintro e w1 ⟨rfl, hb⟩; have HX := hide (below_trans HB.out hb); clear hb))
          go_ret
          exact ⟨rfl, HX.out⟩
        · have e : x / 128 = -1 := by have := m1 (by omega); omega
          clear f1 f2 f3 f4 f5 f6 f7 m0 m1 hM h8 h1 hj1 hjT
          go_wp2_with (first
            | (go_at_call 40; with_reducible refine Calls.mono (HR.out _) ?_; rintro e w1 ⟨rfl, hb⟩; have HX := hide (below_trans HB.out hb); clear hb))
          go_ret
          exact ⟨rfl, HX.out⟩
      · have hM : ¬ M < 128 := fun h => by have := f1.2 h; omega
        have e0 : ¬ x / 128 = 0 := by
          by_cases s0 : 0 ≤ x
          · have := m0 s0; omega
          · omega
        have e1 : ¬ x / 128 = -1 := by
          by_cases s0 : 0 ≤ x
          · omega
          · have := m1 (by omega); omega
        have g0 : (x / 128 == 0) = false := by simp [e0]
        have g1 : (x / 128 == -1) = false := by simp [e1]
        have HjT := hide (show 1 + 1 ≤ T by omega)
        clear f1 f2 f3 f4 f5 f6 f7 m0 m1 hM h8 h1 hj1 hjT
        go_wp2_with fail
        refine ⟨⟨1 + 1, by omega, HjT.out, rfl, HB.out⟩, ?_⟩
        simp [intOf]
    · have HR : Hid (∀ V, Calls Try.prog 40 #[.int .i64 x, .int .i64 2] V fun e w' => e = .returned (.string ⟨(loN x 2).toArray⟩) ∧ Below V.heap.size V w') := fun V => HBw.out 2 (by omega) V
      obtain ⟨⟨f1, f2, f3, f4, f5, f6, f7⟩, m0, m1⟩ := HF.out
      by_cases hT : T = 2
      · subst hT
        have hM : M < 32768 := f2.1 (Nat.le_refl _)
        by_cases s0 : 0 ≤ x
        · have e : x / 32768 = 0 := by have := m0 s0; omega
          clear f1 f2 f3 f4 f5 f6 f7 m0 m1 hM h8 h1 hj1 hjT
          go_wp2_with (first
            | (go_at_call 40; with_reducible refine Calls.mono (HR.out _) ?_; rintro e w1 ⟨rfl, hb⟩; have HX := hide (below_trans HB.out hb); clear hb))
          go_ret
          exact ⟨rfl, HX.out⟩
        · have e : x / 32768 = -1 := by have := m1 (by omega); omega
          clear f1 f2 f3 f4 f5 f6 f7 m0 m1 hM h8 h1 hj1 hjT
          go_wp2_with (first
            | (go_at_call 40; with_reducible refine Calls.mono (HR.out _) ?_; rintro e w1 ⟨rfl, hb⟩; have HX := hide (below_trans HB.out hb); clear hb))
          go_ret
          exact ⟨rfl, HX.out⟩
      · have hM : ¬ M < 32768 := fun h => by have := f2.2 h; omega
        have e0 : ¬ x / 32768 = 0 := by
          by_cases s0 : 0 ≤ x
          · have := m0 s0; omega
          · omega
        have e1 : ¬ x / 32768 = -1 := by
          by_cases s0 : 0 ≤ x
          · omega
          · have := m1 (by omega); omega
        have g0 : (x / 32768 == 0) = false := by simp [e0]
        have g1 : (x / 32768 == -1) = false := by simp [e1]
        have HjT := hide (show 2 + 1 ≤ T by omega)
        clear f1 f2 f3 f4 f5 f6 f7 m0 m1 hM h8 h1 hj1 hjT
        go_wp2_with fail
        refine ⟨⟨2 + 1, by omega, HjT.out, rfl, HB.out⟩, ?_⟩
        simp [intOf]
    · have HR : Hid (∀ V, Calls Try.prog 40 #[.int .i64 x, .int .i64 3] V fun e w' => e = .returned (.string ⟨(loN x 3).toArray⟩) ∧ Below V.heap.size V w') := fun V => HBw.out 3 (by omega) V
      obtain ⟨⟨f1, f2, f3, f4, f5, f6, f7⟩, m0, m1⟩ := HF.out
      by_cases hT : T = 3
      · subst hT
        have hM : M < 8388608 := f3.1 (Nat.le_refl _)
        by_cases s0 : 0 ≤ x
        · have e : x / 8388608 = 0 := by have := m0 s0; omega
          clear f1 f2 f3 f4 f5 f6 f7 m0 m1 hM h8 h1 hj1 hjT
          go_wp2_with (first
            | (go_at_call 40; with_reducible refine Calls.mono (HR.out _) ?_; rintro e w1 ⟨rfl, hb⟩; have HX := hide (below_trans HB.out hb); clear hb))
          go_ret
          exact ⟨rfl, HX.out⟩
        · have e : x / 8388608 = -1 := by have := m1 (by omega); omega
          clear f1 f2 f3 f4 f5 f6 f7 m0 m1 hM h8 h1 hj1 hjT
          go_wp2_with (first
            | (go_at_call 40; with_reducible refine Calls.mono (HR.out _) ?_; rintro e w1 ⟨rfl, hb⟩; have HX := hide (below_trans HB.out hb); clear hb))
          go_ret
          exact ⟨rfl, HX.out⟩
      · have hM : ¬ M < 8388608 := fun h => by have := f3.2 h; omega
        have e0 : ¬ x / 8388608 = 0 := by
          by_cases s0 : 0 ≤ x
          · have := m0 s0; omega
          · omega
        have e1 : ¬ x / 8388608 = -1 := by
          by_cases s0 : 0 ≤ x
          · omega
          · have := m1 (by omega); omega
        have g0 : (x / 8388608 == 0) = false := by simp [e0]
        have g1 : (x / 8388608 == -1) = false := by simp [e1]
        have HjT := hide (show 3 + 1 ≤ T by omega)
        clear f1 f2 f3 f4 f5 f6 f7 m0 m1 hM h8 h1 hj1 hjT
        go_wp2_with fail
        refine ⟨⟨3 + 1, by omega, HjT.out, rfl, HB.out⟩, ?_⟩
        simp [intOf]
    · have HR : Hid (∀ V, Calls Try.prog 40 #[.int .i64 x, .int .i64 4] V fun e w' => e = .returned (.string ⟨(loN x 4).toArray⟩) ∧ Below V.heap.size V w') := fun V => HBw.out 4 (by omega) V
      obtain ⟨⟨f1, f2, f3, f4, f5, f6, f7⟩, m0, m1⟩ := HF.out
      by_cases hT : T = 4
      · subst hT
        have hM : M < 2147483648 := f4.1 (Nat.le_refl _)
        by_cases s0 : 0 ≤ x
        · have e : x / 2147483648 = 0 := by have := m0 s0; omega
          clear f1 f2 f3 f4 f5 f6 f7 m0 m1 hM h8 h1 hj1 hjT
          go_wp2_with (first
            | (go_at_call 40; with_reducible refine Calls.mono (HR.out _) ?_; rintro e w1 ⟨rfl, hb⟩; have HX := hide (below_trans HB.out hb); clear hb))
          go_ret
          exact ⟨rfl, HX.out⟩
        · have e : x / 2147483648 = -1 := by have := m1 (by omega); omega
          clear f1 f2 f3 f4 f5 f6 f7 m0 m1 hM h8 h1 hj1 hjT
          go_wp2_with (first
            | (go_at_call 40; with_reducible refine Calls.mono (HR.out _) ?_; rintro e w1 ⟨rfl, hb⟩; have HX := hide (below_trans HB.out hb); clear hb))
          go_ret
          exact ⟨rfl, HX.out⟩
      · have hM : ¬ M < 2147483648 := fun h => by have := f4.2 h; omega
        have e0 : ¬ x / 2147483648 = 0 := by
          by_cases s0 : 0 ≤ x
          · have := m0 s0; omega
          · omega
        have e1 : ¬ x / 2147483648 = -1 := by
          by_cases s0 : 0 ≤ x
          · omega
          · have := m1 (by omega); omega
        have g0 : (x / 2147483648 == 0) = false := by simp [e0]
        have g1 : (x / 2147483648 == -1) = false := by simp [e1]
        have HjT := hide (show 4 + 1 ≤ T by omega)
        clear f1 f2 f3 f4 f5 f6 f7 m0 m1 hM h8 h1 hj1 hjT
        go_wp2_with fail
        refine ⟨⟨4 + 1, by omega, HjT.out, rfl, HB.out⟩, ?_⟩
        simp [intOf]
    · have HR : Hid (∀ V, Calls Try.prog 40 #[.int .i64 x, .int .i64 5] V fun e w' => e = .returned (.string ⟨(loN x 5).toArray⟩) ∧ Below V.heap.size V w') := fun V => HBw.out 5 (by omega) V
      obtain ⟨⟨f1, f2, f3, f4, f5, f6, f7⟩, m0, m1⟩ := HF.out
      by_cases hT : T = 5
      · subst hT
        have hM : M < 549755813888 := f5.1 (Nat.le_refl _)
        by_cases s0 : 0 ≤ x
        · have e : x / 549755813888 = 0 := by have := m0 s0; omega
          clear f1 f2 f3 f4 f5 f6 f7 m0 m1 hM h8 h1 hj1 hjT
          go_wp2_with (first
            | (go_at_call 40; with_reducible refine Calls.mono (HR.out _) ?_; rintro e w1 ⟨rfl, hb⟩; have HX := hide (below_trans HB.out hb); clear hb))
          go_ret
          exact ⟨rfl, HX.out⟩
        · have e : x / 549755813888 = -1 := by have := m1 (by omega); omega
          clear f1 f2 f3 f4 f5 f6 f7 m0 m1 hM h8 h1 hj1 hjT
          go_wp2_with (first
            | (go_at_call 40; with_reducible refine Calls.mono (HR.out _) ?_; rintro e w1 ⟨rfl, hb⟩; have HX := hide (below_trans HB.out hb); clear hb))
          go_ret
          exact ⟨rfl, HX.out⟩
      · have hM : ¬ M < 549755813888 := fun h => by have := f5.2 h; omega
        have e0 : ¬ x / 549755813888 = 0 := by
          by_cases s0 : 0 ≤ x
          · have := m0 s0; omega
          · omega
        have e1 : ¬ x / 549755813888 = -1 := by
          by_cases s0 : 0 ≤ x
          · omega
          · have := m1 (by omega); omega
        have g0 : (x / 549755813888 == 0) = false := by simp [e0]
        have g1 : (x / 549755813888 == -1) = false := by simp [e1]
        have HjT := hide (show 5 + 1 ≤ T by omega)
        clear f1 f2 f3 f4 f5 f6 f7 m0 m1 hM h8 h1 hj1 hjT
        go_wp2_with fail
        refine ⟨⟨5 + 1, by omega, HjT.out, rfl, HB.out⟩, ?_⟩
        simp [intOf]
    · have HR : Hid (∀ V, Calls Try.prog 40 #[.int .i64 x, .int .i64 6] V fun e w' => e = .returned (.string ⟨(loN x 6).toArray⟩) ∧ Below V.heap.size V w') := fun V => HBw.out 6 (by omega) V
      obtain ⟨⟨f1, f2, f3, f4, f5, f6, f7⟩, m0, m1⟩ := HF.out
      by_cases hT : T = 6
      · subst hT
        have hM : M < 140737488355328 := f6.1 (Nat.le_refl _)
        by_cases s0 : 0 ≤ x
        · have e : x / 140737488355328 = 0 := by have := m0 s0; omega
          clear f1 f2 f3 f4 f5 f6 f7 m0 m1 hM h8 h1 hj1 hjT
          go_wp2_with (first
            | (go_at_call 40; with_reducible refine Calls.mono (HR.out _) ?_; rintro e w1 ⟨rfl, hb⟩; have HX := hide (below_trans HB.out hb); clear hb))
          go_ret
          exact ⟨rfl, HX.out⟩
        · have e : x / 140737488355328 = -1 := by have := m1 (by omega); omega
          clear f1 f2 f3 f4 f5 f6 f7 m0 m1 hM h8 h1 hj1 hjT
          go_wp2_with (first
            | (go_at_call 40; with_reducible refine Calls.mono (HR.out _) ?_; rintro e w1 ⟨rfl, hb⟩; have HX := hide (below_trans HB.out hb); clear hb))
          go_ret
          exact ⟨rfl, HX.out⟩
      · have hM : ¬ M < 140737488355328 := fun h => by have := f6.2 h; omega
        have e0 : ¬ x / 140737488355328 = 0 := by
          by_cases s0 : 0 ≤ x
          · have := m0 s0; omega
          · omega
        have e1 : ¬ x / 140737488355328 = -1 := by
          by_cases s0 : 0 ≤ x
          · omega
          · have := m1 (by omega); omega
        have g0 : (x / 140737488355328 == 0) = false := by simp [e0]
        have g1 : (x / 140737488355328 == -1) = false := by simp [e1]
        have HjT := hide (show 6 + 1 ≤ T by omega)
        clear f1 f2 f3 f4 f5 f6 f7 m0 m1 hM h8 h1 hj1 hjT
        go_wp2_with fail
        refine ⟨⟨6 + 1, by omega, HjT.out, rfl, HB.out⟩, ?_⟩
        simp [intOf]
    · have HR : Hid (∀ V, Calls Try.prog 40 #[.int .i64 x, .int .i64 7] V fun e w' => e = .returned (.string ⟨(loN x 7).toArray⟩) ∧ Below V.heap.size V w') := fun V => HBw.out 7 (by omega) V
      obtain ⟨⟨f1, f2, f3, f4, f5, f6, f7⟩, m0, m1⟩ := HF.out
      by_cases hT : T = 7
      · subst hT
        have hM : M < 36028797018963968 := f7.1 (Nat.le_refl _)
        by_cases s0 : 0 ≤ x
        · have e : x / 36028797018963968 = 0 := by have := m0 s0; omega
          clear f1 f2 f3 f4 f5 f6 f7 m0 m1 hM h8 h1 hj1 hjT
          go_wp2_with (first
            | (go_at_call 40; with_reducible refine Calls.mono (HR.out _) ?_; rintro e w1 ⟨rfl, hb⟩; have HX := hide (below_trans HB.out hb); clear hb))
          go_ret
          exact ⟨rfl, HX.out⟩
        · have e : x / 36028797018963968 = -1 := by have := m1 (by omega); omega
          clear f1 f2 f3 f4 f5 f6 f7 m0 m1 hM h8 h1 hj1 hjT
          go_wp2_with (first
            | (go_at_call 40; with_reducible refine Calls.mono (HR.out _) ?_; rintro e w1 ⟨rfl, hb⟩; have HX := hide (below_trans HB.out hb); clear hb))
          go_ret
          exact ⟨rfl, HX.out⟩
      · have hM : ¬ M < 36028797018963968 := fun h => by have := f7.2 h; omega
        have e0 : ¬ x / 36028797018963968 = 0 := by
          by_cases s0 : 0 ≤ x
          · have := m0 s0; omega
          · omega
        have e1 : ¬ x / 36028797018963968 = -1 := by
          by_cases s0 : 0 ≤ x
          · omega
          · have := m1 (by omega); omega
        have g0 : (x / 36028797018963968 == 0) = false := by simp [e0]
        have g1 : (x / 36028797018963968 == -1) = false := by simp [e1]
        have HjT := hide (show 7 + 1 ≤ T by omega)
        clear f1 f2 f3 f4 f5 f6 f7 m0 m1 hM h8 h1 hj1 hjT
        go_wp2_with fail
        refine ⟨⟨7 + 1, by omega, HjT.out, rfl, HB.out⟩, ?_⟩
        simp [intOf]
    · have HR : Hid (∀ V, Calls Try.prog 40 #[.int .i64 x, .int .i64 8] V fun e w' => e = .returned (.string ⟨(loN x 8).toArray⟩) ∧ Below V.heap.size V w') := fun V => HBw.out 8 (by omega) V
      obtain rfl : T = 8 := by omega
      go_wp2_with (first
        | (go_at_call 40; with_reducible refine Calls.mono (HR.out _) ?_; rintro e w1 ⟨rfl, hb⟩; have HX := hide (below_trans HB.out hb); clear hb))
      go_ret
      exact ⟨rfl, HX.out⟩
end Go.Proofs.Ytfjmoiooonialaa
