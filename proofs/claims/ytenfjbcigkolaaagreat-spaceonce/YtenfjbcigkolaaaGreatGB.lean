/- A page's link: read, and laid. -/
import Derived.Test.YtenfjbcigkolaaaGreatGA
import Derived.Laws.BitsAllLaws
namespace Go.Proofs.YtenfjbcigkolaaaGreat
open Go.ChangeShapes Go.WideShapes Go.ChangeAt Go.RowKit
set_option linter.unusedVariables false

/-- A page's link. -/
def lnk (l : List UInt8) : Nat := ((byt l 2 * 256 + byt l 3) * 256 + byt l 4) * 256 + byt l 5
theorem lnk_lt (l : List UInt8) : lnk l < 4294967296 := by
  have := byt_lt l 2; have := byt_lt l 3; have := byt_lt l 4; have := byt_lt l 5
  unfold lnk; omega

def lkN (l : List UInt8) : Nat → Nat
  | 0 => 0
  | j + 1 => lkN l j * 256 + byt l (2 + j)
theorem lkN_lt (l : List UInt8) : ∀ j, lkN l j < 256 ^ j
  | 0 => by simp [lkN]
  | j + 1 => by
    have h := lkN_lt l j
    have hb := byt_lt l (2 + j)
    simp only [lkN, Nat.pow_succ]
    omega
theorem lk_lnk (l : List UInt8) : lkN l 4 = lnk l := by simp [lkN, lnk]

theorem link_step (l : List UInt8) (j : Nat) (h : j < 4) : bits BinOp.or IntKind.u32 ((lkN l j : Int) * 256 % 4294967296) ((byt l (2 + j) : Int) % 4294967296) = (lkN l (j + 1) : Int) := by
  have hb := byt_lt l (2 + j)
  have hj := lkN_lt l j
  have hp : lkN l j < 16777216 := by
    have : 256 ^ j ≤ 256 ^ 3 := Nat.pow_le_pow_right (by omega) (by omega)
    omega
  have e1 : (lkN l j : Int) * 256 % 4294967296 = ((lkN l j * 256 : Nat) : Int) := by omega
  have e2 : (byt l (2 + j) : Int) % 4294967296 = (byt l (2 + j) : Int) := by omega
  rw [e1, e2, u32_or_nat _ _ (by omega) (by omega)]
  have := Nat.two_pow_add_eq_or_of_lt (i := 8) (b := byt l (2 + j)) (by omega) (lkN l j)
  simp only [lkN]
  have e3 : lkN l j * 256 = 2 ^ 8 * lkN l j := by omega
  rw [e3, ← this]

set_option maxRecDepth 20000 in
set_option maxHeartbeats 1000000 in
theorem linkOf_walk (l : List UInt8) (hl : l.length = 256) (w : World) :
    Calls Tryz.prog 184 #[.agg (bc l)] w fun e w' => e = .returned (.int .u32 (lnk l : Int)) ∧ Below w.heap.size w w' := by
  have HP := hide (PAt.new w l)
  have HB := hide (new_below w (.cells (bc l) 32) rfl)
  have HL := hide hl
  have hs := cut_page (w.alloc (.cells (bc l) 32)) w.heap.size (x := 2) (y := 6) 2 4 rfl rfl (by omega) (by omega)
  clear hl
  go_enter Tryz.func184, Tryz.ntmps184
  go_wp2
  go_loopw [8, 3] (fun iv av wr => ∃ j : Nat, j ≤ 4 ∧ iv = .int .i64 (j : Int) ∧ av = .int .u32 ((lkN l j : Nat) : Int) ∧ wr = w.alloc (.cells (bc l) 32)) (fun iv _ _ => 4 - (intOf iv).toNat)
  case atStart => exact ⟨0, Nat.zero_le _, rfl, rfl, rfl⟩
  case round =>
    obtain ⟨j, hj, rfl, rfl, rfl⟩ := hrel
    by_cases hlt : j < 4
    · have l1 : (j : Int) < 4 := by omega
      have l0 : (0 : Int) ≤ (j : Int) := by omega
      have hw1 : IntKind.i64.wrap ((j : Int) + 1) = (j : Int) + 1 := by rw [IntKind.wrap_i64]; omega
      have cj := HP.out.cell (k := 2 + j) (by rw [HL.out]; omega)
      go_wp2
      refine ⟨⟨j + 1, hlt, rfl, ?_, by trivial⟩, ?_⟩
      · rw [link_step l j hlt]
      · simp only [intOf]; omega
    · have l1 : ¬ (j : Int) < 4 := by omega
      obtain rfl : j = 4 := by omega
      go_wp2
      go_ret
      rw [lk_lnk]
      exact ⟨rfl, HB.out⟩
end Go.Proofs.YtenfjbcigkolaaaGreat
