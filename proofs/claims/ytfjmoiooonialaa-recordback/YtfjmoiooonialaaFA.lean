/- How many bytes an integer has, what a value's type is, which bytes it has. Of no program but the last two. -/
import Derived.Test.YtfjmoiooonialaaSP
import Derived.Test.YtfjmoiooonialaaVM
import Derived.Test.YtfjmoiooonialaaXA
namespace Go.Proofs.Ytfjmoiooonialaa
open Go.ChangeShapes Go.WideShapes Go.ChangeAt Go.RowKit
set_option linter.unusedVariables false

theorem xor_zero (n : Int) (h0 : 0 ≤ n) (h1 : n ≤ 9223372036854775807) : bits BinOp.xor IntKind.i64 n 0 = n := by
  show IntKind.i64.wrap ((BitVec.ofInt 64 n ^^^ BitVec.ofInt 64 0).toNat : Int) = n
  have e : BitVec.ofInt 64 0 = 0#64 := by decide
  rw [e, BitVec.xor_zero, IntKind.wrap_i64, BitVec.toNat_ofInt]
  omega
theorem xor_ones (n : Int) (h0 : -9223372036854775808 ≤ n) (h1 : n < 0) : bits BinOp.xor IntKind.i64 n (-1) = -n - 1 := by
  show IntKind.i64.wrap ((BitVec.ofInt 64 n ^^^ BitVec.ofInt 64 (-1)).toNat : Int) = -n - 1
  have e : BitVec.ofInt 64 (-1) = BitVec.allOnes 64 := by decide
  rw [e, BitVec.xor_allOnes, BitVec.toNat_not, IntKind.wrap_i64, BitVec.toNat_ofInt]
  omega
/-- The number whose length counts. -/
def magN (n : Int) : Nat := if 0 ≤ n then n.toNat else (-n - 1).toNat
def widN (n : Int) : Nat := Lib.bitLen (magN n) / 8 + 1
def InI (n : Int) : Prop := -9223372036854775808 ≤ n ∧ n ≤ 9223372036854775807
theorem magN_lt {n : Int} (h : InI n) : magN n < 9223372036854775808 := by
  unfold magN InI at *
  split <;> omega
theorem widN_le {n : Int} (h : InI n) : widN n ≤ 8 := by
  have := (bl_le 64 (magN n) 63 (by have := magN_lt h; omega)).2 (magN_lt h)
  unfold widN
  have e : Lib.bitLen (magN n) ≤ 63 := this
  omega
theorem widN_pos (n : Int) : 1 ≤ widN n := by unfold widN; omega
/-- The type of a value. -/
def typN (k n : Int) (t : ByteArray) : Nat :=
  if k = 1 then (if n = 0 then 9 else if n = 1 then 10 else widN n) else if k = 2 then 13 + 2 * t.size else if k = 3 then 12 + 2 * t.size else 0
/-- The bytes of an integer from the T-th down to the j-th. -/
def byteN (n : Int) (j : Nat) : UInt8 := UInt8.ofNat ((n / 2 ^ (8 * j)) % 256).toNat
def beN (n : Int) (T : Nat) : Nat → List UInt8
  | 0 => []
  | m + 1 => beN n T m ++ [byteN n (T - (m + 1))]
theorem beN_length (n : Int) (T m : Nat) : (beN n T m).length = m := by
  induction m with
  | zero => rfl
  | succ m ih => simp [beN, ih]
/-- The bytes of a value. -/
def valL (k n : Int) (t : ByteArray) : List UInt8 := (if typN k n t ≤ 8 then beN n (typN k n t) (typN k n t) else []) ++ t.data.toList

set_option maxHeartbeats 1000000 in
theorem width_walk (n : Int) (hn : InI n) (w : World) : Calls Try.prog 36 #[.int .i64 n] w fun e w' => e = .returned (.int .i64 (widN n : Int)) ∧ w = w' := by
  have hm := magN_lt hn
  have HL : Hid (∀ V, Calls Try.prog 34 #[.int .u64 (magN n : Int)] V fun e w' => e = .returned (.int .i64 (Lib.bitLen (magN n))) ∧ w' = V) := fun V => Try.bits_Len64 (magN n : Int) V (by omega) (by omega)
  have hb : Lib.bitLen (magN n) ≤ 63 := (bl_le 64 (magN n) 63 (by omega)).2 hm
  have HWd : Hid (widN n = Lib.bitLen (magN n) / 8 + 1) := by show _ = _; rfl
  obtain ⟨L, hL⟩ : ∃ L, Lib.bitLen (magN n) = L := ⟨_, rfl⟩
  rw [hL] at HL hb HWd
  have e1 : IntKind.i64.wrap ((L : Int).tdiv 8) = ((L / 8 : Nat) : Int) := by
    rw [Int.tdiv_eq_ediv_of_nonneg (by omega), IntKind.wrap_i64]; omega
  have e2 : IntKind.i64.wrap (((L / 8 : Nat) : Int) + 1) = ((L / 8 + 1 : Nat) : Int) := by rw [IntKind.wrap_i64]; omega
  unfold InI at hn
  by_cases h0 : 0 ≤ n
  · have x1 : n / 9223372036854775808 = 0 := by omega
    have x2 := xor_zero n h0 hn.2
    have x3 : (magN n : Int) = n := by unfold magN; rw [if_pos h0]; omega
    rw [x3] at HL
    clear x3
    clear hn hL hm
    go_enter Try.func36, Try.ntmps36
    go_wp2_with (first
      | (go_at_call 34; with_reducible refine Calls.mono (HL.out _) ?_; rintro e w1 ⟨rfl, rfl⟩))
    go_ret
    exact ⟨by rw [HWd.out]; rfl, rfl⟩
  · have x1 : n / 9223372036854775808 = -1 := by omega
    have x2 := xor_ones n hn.1 (by omega)
    have x3 : (magN n : Int) = -n - 1 := by unfold magN; rw [if_neg h0]; omega
    rw [x3] at HL
    clear x3
    clear hn hL hm
    go_enter Try.func36, Try.ntmps36
    go_wp2_with (first
      | (go_at_call 34; with_reducible refine Calls.mono (HL.out _) ?_; rintro e w1 ⟨rfl, rfl⟩))
    go_ret
    exact ⟨by rw [HWd.out]; rfl, rfl⟩
end Go.Proofs.Ytfjmoiooonialaa
