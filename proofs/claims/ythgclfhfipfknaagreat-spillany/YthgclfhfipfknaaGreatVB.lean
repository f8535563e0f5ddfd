/- Varints, in plain words. -/
/- What lasts in memory; how many bytes a varint has. -/
import Derived.Lib.BitFns
import Derived.Test.YthgclfhfipfknaaGreatSh
import Derived.Test.YthgclfhfipfknaaGreatProg
import Derived.WalkKit
import Derived.ProofKit
import Derived.OpenShut
import Derived.Laws.StructEq
import Derived.Handy
import Derived.Deep.RegionHeld3
import Derived.Deep.Cut
namespace Go.Proofs.YthgclfhfipfknaaGreat.Rec
set_option linter.unusedVariables false

theorem bl_le : ∀ (f x k : Nat), x < 2 ^ f → (Lib.bitLenAux f x ≤ k ↔ x < 2 ^ k)
  | 0, x, k, h => by
    have hx : x = 0 := by simpa using h
    subst hx
    have : 0 < 2 ^ k := Nat.pow_pos (by omega)
    simp [Lib.bitLenAux, this]
  | f + 1, x, k, h => by
    unfold Lib.bitLenAux
    by_cases h0 : x = 0
    · subst h0
      have : 0 < 2 ^ k := Nat.pow_pos (by omega)
      simp [this]
    · rw [if_neg h0]
      cases k with
      | zero => simp; omega
      | succ j =>
        have ih := bl_le f (x / 2) j (by rw [Nat.pow_succ] at h; omega)
        rw [Nat.pow_succ]
        constructor
        · intro g
          have := ih.1 (by omega)
          omega
        · intro g
          have := ih.2 (by omega)
          omega

/-- How many bytes the shortest form has. -/
def vsz (u : Nat) : Nat := if u < 128 then 1 else if u < 16384 then 2 else if u < 2097152 then 3 else if u < 268435456 then 4 else if u < 34359738368 then 5 else if u < 4398046511104 then 6 else if u < 562949953421312 then 7 else if u < 72057594037927936 then 8 else 9

theorem vsz_len (u : Nat) (h : u < 18446744073709551616) : min (max ((Lib.bitLen u + 6) / 7) 1) 9 = vsz u := by
  have h' : u < 2 ^ 64 := h
  have b7 := bl_le 64 u 7 h'
  have b14 := bl_le 64 u 14 h'
  have b21 := bl_le 64 u 21 h'
  have b28 := bl_le 64 u 28 h'
  have b35 := bl_le 64 u 35 h'
  have b42 := bl_le 64 u 42 h'
  have b49 := bl_le 64 u 49 h'
  have b56 := bl_le 64 u 56 h'
  unfold Lib.bitLen
  generalize Lib.bitLenAux 64 u = L at *
  unfold vsz
  simp only [show (2:Nat) ^ 7 = 128 by decide, show (2:Nat) ^ 14 = 16384 by decide, show (2:Nat) ^ 21 = 2097152 by decide, show (2:Nat) ^ 28 = 268435456 by decide, show (2:Nat) ^ 35 = 34359738368 by decide, show (2:Nat) ^ 42 = 4398046511104 by decide, show (2:Nat) ^ 49 = 562949953421312 by decide, show (2:Nat) ^ 56 = 72057594037927936 by decide] at *
  repeat' split
  all_goals omega

/-- A byte that says that another one comes. -/
def hiB (u : Nat) : UInt8 := UInt8.ofNat (u % 128 + 128)
/-- The k lowest digits of u to the base 128, the highest first. -/
def lows : Nat → Nat → List UInt8
  | 0, _ => []
  | k + 1, u => hiB (u / 128 ^ k) :: lows k u
theorem lows_length (k u : Nat) : (lows k u).length = k := by induction k with | zero => rfl | succ k ih => simp [lows, ih]

/-- The varint. -/
def putL (u : Nat) : List UInt8 := if u < 72057594037927936 then lows (vsz u - 1) (u / 128) ++ [UInt8.ofNat (u % 128)] else lows 8 (u / 256) ++ [UInt8.ofNat (u % 256)]
theorem vsz_pos (u : Nat) : 1 ≤ vsz u ∧ vsz u ≤ 9 := by
  unfold vsz
  (repeat' split) <;> omega
theorem vsz_nine (u : Nat) : vsz u = 9 ↔ ¬ u < 72057594037927936 := by
  unfold vsz
  (repeat' split) <;> omega
theorem putL_length (u : Nat) : (putL u).length = vsz u := by
  have := vsz_pos u
  have h9 := vsz_nine u
  unfold putL
  split
  · rw [List.length_append, lows_length]; simp; omega
  · rw [List.length_append, lows_length]; simp; omega
end Go.Proofs.YthgclfhfipfknaaGreat.Rec

namespace Go.Proofs.YthgclfhfipfknaaGreat.Rec
open Go.ChangeShapes Go.WideShapes Go.ChangeAt Go.RowKit
set_option linter.unusedVariables false

theorem cell_later {w w' : World} (b : Below w.heap.size w w') {a : Addr} {v : Value} (h : w.cell? a = some v) : w'.cell? a = some v := by
  refine (b.cell ?_).trans h
  refine Nat.lt_of_not_le fun hn => ?_
  have : w.heap[a.block]? = none := by simp; exact hn
  rw [World.cell?_of_block (w := World.mk #[] w.tape w.drawn w.os w.output) (w' := w) (by rw [this]; simp)] at h
  simp [World.cell?] at h
theorem below_trans {w w1 w2 : World} (h : Below w.heap.size w w1) (k : Below w1.heap.size w1 w2) : Below w.heap.size w w2 :=
  h.trans (k.mono h.size)
theorem new_below (w : World) (o : Obj) {W : World} (hW : w.alloc o = W) : Below w.heap.size w W := by
  subst hW; exact (Below.refl _ _).alloc (Nat.le_refl _) _
theorem hide {p : Prop} (h : p) : Hid p := h

set_option maxHeartbeats 1000000 in
theorem size_walk (u : Nat) (hu : u < 18446744073709551616) (w : World) : Calls Tryz.prog 196 #[.int .u64 (u : Int)] w fun e w' => e = .returned (.int .i64 (vsz u : Int)) ∧ w = w' := by
  have HL : Hid (∀ V, Calls Tryz.prog 250 #[.int .u64 (u : Int)] V fun e w' => e = .returned (.int .i64 (Lib.bitLen u)) ∧ w' = V) := fun V => Tryz.bits_Len64 (u : Int) V (by omega) (by omega)
  have hv := vsz_len u hu
  have hb : Lib.bitLen u ≤ 64 := by
    have := (bl_le 64 u 64 hu).2 hu
    exact this
  generalize Lib.bitLen u = L at HL hv hb
  have e1 : IntKind.i64.wrap ((L : Int) + 7) = (L : Int) + 7 := by rw [IntKind.wrap_i64]; omega
  have e2 : IntKind.i64.wrap ((L : Int) + 7 - 1) = (L : Int) + 6 := by rw [IntKind.wrap_i64]; omega
  have e3 : IntKind.i64.wrap (((L : Int) + 6).tdiv 7) = (((L + 6) / 7 : Nat) : Int) := by
    rw [Int.tdiv_eq_ediv_of_nonneg (by omega), IntKind.wrap_i64]; omega
  clear hu
  go_enter Tryz.func196, Tryz.ntmps196
  go_wp2_with (first
    | (go_at_call 250; with_reducible refine Calls.mono (HL.out _) ?_; rintro e w1 ⟨rfl, rfl⟩))
  go_ret
  refine ⟨?_, rfl⟩
  have : (min (max (((L : Int) + 6) / 7) 1) 9 : Int) = (vsz u : Int) := by omega
  rw [this]
  rfl
end Go.Proofs.YthgclfhfipfknaaGreat.Rec
