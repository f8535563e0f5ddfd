/- Package spill: any stub is read. -/
/- Package spill: any stub is read: the calls. -/
import Derived.Test.YthgclfhfipfknaaGreatPLE
namespace Go.Proofs.YthgclfhfipfknaaGreat
open Go.ChangeShapes Go.WideShapes Go.ChangeAt Go.RowKit Go.Maps
set_option linter.unusedVariables false

theorem or_i64 (x b : Nat) (hb : b < 256) (h : x < 16777216) : bits BinOp.or IntKind.i64 (IntKind.i64.wrap ((x : Int) * 256)) (IntKind.i64.wrap (b : Int)) = ((x * 256 + b : Nat) : Int) := by
  have e : x * 2 ^ 8 ||| b = x * 2 ^ 8 + b := by
    rw [← Nat.shiftLeft_eq, Nat.shiftLeft_add_eq_or_of_lt hb]
  have e1 : IntKind.i64.wrap ((x : Int) * 256) = ((x * 2 ^ 8 : Nat) : Int) := by rw [IntKind.wrap_i64]; omega
  have e2 : IntKind.i64.wrap (b : Int) = (b : Int) := by rw [IntKind.wrap_i64]; omega
  have h1 : x * 2 ^ 8 < 2 ^ 64 := by omega
  have h2 : b < 2 ^ 64 := by omega
  rw [e1, e2]
  unfold bits
  show IntKind.i64.wrap ((BitVec.ofInt 64 ((x * 2 ^ 8 : Nat) : Int) ||| BitVec.ofInt 64 (b : Int)).toNat : Int) = _
  rw [BitVec.ofInt_natCast, BitVec.ofInt_natCast, BitVec.toNat_or, BitVec.toNat_ofNat, BitVec.toNat_ofNat, Nat.mod_eq_of_lt h1, Nat.mod_eq_of_lt h2, e, IntKind.wrap_i64]
  omega
/-- How many cells a page of a chain has. -/
def cellsN (left : Nat) : Nat := (min left 240 + 59) / 60
theorem cellsOf_e (w : World) (left : Nat) (h : left ≤ 4000) : Calls Tryz.prog 105 #[.int .i64 (left : Int)] w fun e w' => e = .returned (.int .i64 (cellsN left : Int)) ∧ w = w' := by
  have l1 : min (left : Int) 240 = ((min left 240 : Nat) : Int) := by omega
  have l2 : IntKind.i64.wrap (((min left 240 : Nat) : Int) + 60) = ((min left 240 : Nat) : Int) + 60 := by rw [IntKind.wrap_i64]; omega
  have l3 : IntKind.i64.wrap (((min left 240 : Nat) : Int) + 60 - 1) = ((min left 240 + 59 : Nat) : Int) := by rw [IntKind.wrap_i64]; omega
  have l4 : IntKind.i64.wrap (((min left 240 + 59 : Nat) : Int).tdiv 60) = (cellsN left : Int) := by
    unfold cellsN
    rw [Int.tdiv_eq_ediv_of_nonneg (by omega), IntKind.wrap_i64]; omega
  go_enter Tryz.func105, Tryz.ntmps105
  go_wp2
  go_ret
  exact ⟨rfl, rfl⟩
/-- The parts of a stub that is read. -/
def rdA (s : ByteArray) : Nat := Rec.vrdN s.data.toList
def rdU (s : ByteArray) : Nat := Rec.vrdU s.data.toList
def rdEnd (s : ByteArray) : Nat := rdA s + min (rdU s) 40
def rdSz (s : ByteArray) : Nat := if 40 < rdU s then rdEnd s + 4 else rdEnd s
def rdOk (s : ByteArray) : Prop := rdA s ≠ 0 ∧ rdU s ≤ 4000 ∧ rdSz s ≤ s.size
def rdH (s : ByteArray) : ByteArray := s.extract (rdA s) (rdEnd s)
/-- A number of so many bytes, from a place on. -/
def nmF (l : List UInt8) (e : Nat) : Nat → Nat
  | 0 => 0
  | j + 1 => nmF l e j * 256 + byt l (e + j)
theorem nmF_lt (l : List UInt8) (e : Nat) : ∀ j, nmF l e j < 256 ^ j
  | 0 => by simp [nmF]
  | j + 1 => by
    have h1 := nmF_lt l e j
    have h2 := byt_lt l (e + j)
    simp only [nmF, Nat.pow_succ]
    omega
def rdF (s : ByteArray) : Nat := nmF s.data.toList (rdEnd s) (rdSz s - rdEnd s)
theorem rdF_lt (s : ByteArray) : rdF s < 4294967296 := by
  have h := nmF_lt s.data.toList (rdEnd s) (rdSz s - rdEnd s)
  have h2 : rdSz s - rdEnd s ≤ 4 := by unfold rdSz; split <;> omega
  have : 256 ^ (rdSz s - rdEnd s) ≤ 256 ^ 4 := Nat.pow_le_pow_right (by omega) h2
  unfold rdF
  omega
theorem vrd_le (s : ByteArray) : rdA s ≤ 9 ∧ rdA s ≤ s.size ∧ rdU s < 18446744073709551616 := by
  obtain ⟨u, n, h⟩ : ∃ u n, Rec.beg s.data.toList 0 0 = (u, n) := ⟨_, _, rfl⟩
  have hl : s.data.toList.length = s.size := bytes_size s
  have := Rec.beg_iff _ _ _ h
  unfold rdA rdU Rec.vrdN Rec.vrdU
  rw [h]
  simp only
  split <;> omega
theorem rdH_size (s : ByteArray) (h : rdOk s) : (rdH s).size = min (rdU s) 40 := by
  have h2 := h.2.2
  unfold rdSz rdEnd at h2
  unfold rdH rdEnd
  rw [ByteArray.size_extract]
  split at h2 <;> omega
end Go.Proofs.YthgclfhfipfknaaGreat

namespace Go.Proofs.YthgclfhfipfknaaGreat
open Go.ChangeShapes Go.WideShapes Go.ChangeAt Go.RowKit Go.Maps
set_option linter.unusedVariables false

set_option maxRecDepth 20000 in
set_option maxHeartbeats 1000000 in
theorem read_bad (w : World) (s : ByteArray) (hs : s.size ≤ 140737488355328) (h : ¬ rdOk s) :
    Calls Tryz.prog 99 #[.string s] w fun e w' => e = .returned (.tuple #[.agg (stA 0 ⟨#[]⟩ 0), .int .i64 0, .int .i64 8]) ∧ Below w.heap.size w w' := by
  have HV := hide (fun V => Rec.varint_walk s hs V)
  obtain ⟨v1, v2, v3⟩ := vrd_le s
  have hsz : rdA s ≠ 0 → rdU s ≤ 4000 → s.size < rdSz s := fun h1 h2 => by
    refine Nat.lt_of_not_le fun h3 => h ⟨h1, h2, h3⟩
  unfold rdSz rdEnd at hsz
  change Hid (∀ V, Calls Tryz.prog 183 #[.string s] V fun e w' => e = .returned (.tuple #[.int .u64 (rdU s : Int), .int .i64 (rdA s : Int), .int .i64 (if rdA s = 0 then 8 else 0)]) ∧ V = w') at HV
  clear h
  generalize rdA s = a at *
  generalize rdU s = u at *
  by_cases ha : a = 0
  · subst ha
    rw [if_pos rfl] at HV
    clear hsz v1 v2 v3
    go_enter Tryz.func99, Tryz.ntmps99
    go_wp2_with (first
      | (go_at_call 183; (with_reducible refine Calls.mono (HV.out _) ?_); rintro e w4 ⟨rfl, rfl⟩))
    go_returns
    exact ⟨rfl, below_alloc _ _⟩
  · rw [if_neg ha] at HV
    by_cases hu : u ≤ 4000
    · have hsz := hsz ha hu
      have l1 : ¬ (4000 : Int) < (u : Int) := by omega
      have l4 : IntKind.i64.wrap (u : Int) = u := by rw [IntKind.wrap_i64]; omega
      by_cases h40 : 40 < u
      · rw [if_pos h40] at hsz
        have l2 : (40 : Int) < (u : Int) := by omega
        have l3 : min (u : Int) 40 = 40 := by omega
        have l5 : IntKind.i64.wrap ((a : Int) + 40) = (a : Int) + 40 := by rw [IntKind.wrap_i64]; omega
        have l6 : IntKind.i64.wrap ((a : Int) + 40 + 4) = (a : Int) + 40 + 4 := by rw [IntKind.wrap_i64]; omega
        have l7 : (s.size : Int) < (a : Int) + 40 + 4 := by omega
        clear hsz v1 v2 v3 ha hu
        go_enter Tryz.func99, Tryz.ntmps99
        go_wp2_with (first
          | (go_at_call 183; (with_reducible refine Calls.mono (HV.out _) ?_); rintro e w4 ⟨rfl, rfl⟩))
        go_returns
        exact ⟨rfl, below_trans (below_alloc _ _) (below_alloc _ _)⟩
      · rw [if_neg h40] at hsz
        have l2 : ¬ (40 : Int) < (u : Int) := by omega
        have l3 : min (u : Int) 40 = u := by omega
        have l5 : IntKind.i64.wrap ((a : Int) + u) = (a : Int) + u := by rw [IntKind.wrap_i64]; omega
        have l7 : (s.size : Int) < (a : Int) + u := by omega
        clear hsz v1 v2 v3 ha hu
        go_enter Tryz.func99, Tryz.ntmps99
        go_wp2_with (first
          | (go_at_call 183; (with_reducible refine Calls.mono (HV.out _) ?_); rintro e w4 ⟨rfl, rfl⟩))
        go_returns
        exact ⟨rfl, below_trans (below_alloc _ _) (below_alloc _ _)⟩
    · have l1 : (4000 : Int) < (u : Int) := by omega
      clear hsz v1 v2 v3 ha hu
      go_enter Tryz.func99, Tryz.ntmps99
      go_wp2_with (first
        | (go_at_call 183; (with_reducible refine Calls.mono (HV.out _) ?_); rintro e w4 ⟨rfl, rfl⟩))
      go_returns
      exact ⟨rfl, below_alloc _ _⟩
end Go.Proofs.YthgclfhfipfknaaGreat
