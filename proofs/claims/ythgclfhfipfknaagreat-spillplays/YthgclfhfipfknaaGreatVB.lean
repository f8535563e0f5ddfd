/- The contracts of the library's functions at this program, laid by the kit's command in plain words. -/
/- Varints, in plain words. -/
/- What lasts in memory; how many bytes a varint has. -/
import Derived.Shelf.Strings.Builder1
import Derived.Shelf.Strconv.Itoa0
import Derived.Shelf.Slices.Reverse
import Derived.Shelf.Slices.Cells
import Derived.Test.YthgclfhfipfknaaGreatProg
import Derived.Lib.BitFns
import Derived.WalkKit
import Derived.ProofKit
import Derived.OpenShut
import Derived.Laws.StructEq
import Derived.Handy
import Derived.Deep.RegionHeld3
import Derived.Deep.Cut
namespace Go.Proofs
open Go.Shelf
def Tryz.lays169_ren : Go.Shelf.Ren := ⟨fun | 169 => 108 | n => n, fun | 70 => 201 | 9 => 9 | 0 => 0 | 72 => 203 | 37 => 88 | 127 => 288 | 3 => 3 | 5 => 5 | n => n, fun | n => n⟩
theorem Tryz.lays169 : Go.Proofs.Lays.n169 Tryz.prog Tryz.lays169_ren := {
  mixed := by kernel_rfl
  f169 := Tryz.func108.trans (congrArg some (by kernel_rfl))
  t0 := Tryz.underlying0
  a0 := Tryz.isAgg0
  z0 := Tryz.sizeOf0
  v0 := Tryz.zeroValue0
  t3 := Tryz.underlying3
  a3 := Tryz.isAgg3
  z3 := Tryz.sizeOf3
  v3 := Tryz.zeroValue3
  t9 := Tryz.underlying9
  a9 := Tryz.isAgg9
  z9 := Tryz.sizeOf9
  v9 := Tryz.zeroValue9
  t37 := Tryz.underlying88
  a37 := Tryz.isAgg88
  z37 := Tryz.sizeOf88
  v37 := Tryz.zeroValue88
  t70 := Tryz.underlying201
  a70 := Tryz.isAgg201
  z70 := Tryz.sizeOf201
  v70 := Tryz.zeroValue201
  t72 := Tryz.underlying203
  a72 := Tryz.isAgg203
  z72 := Tryz.sizeOf203
  v72 := Tryz.zeroValue203
  t127 := Tryz.underlying288
  a127 := Tryz.isAgg288
  z127 := Tryz.sizeOf288
  v127 := Tryz.zeroValue288 }
theorem Tryz.Builder_Extra_169 : Builder.Extra Tryz.prog Tryz.lays169_ren := {
  sizeBuilder := by kernel_rfl
  liesBuilder := by kernel_rfl
  t5 := Tryz.underlying5
  a5 := Tryz.isAgg5
  z5 := Tryz.sizeOf5
  v5 := Tryz.zeroValue5
  infoByte := by kernel_rfl
  cellsByte := by kernel_rfl
  sizeByte := by kernel_rfl
  neB5 := by decide }
open Go.RowKit in
theorem Tryz.Builder_String_any (B b : Nat) (l : List UInt8) (w : World) (h : Lib.IsBuilder 203 5 B b (Lib.byteCells l) w) (hBw : B ≤ w.heap.size) :
    Calls Tryz.prog 108 #[.pointer (some ⟨b, 0, none⟩)] w fun e w' => e = .returned (.string ⟨l.toArray⟩) ∧ Below B w w' := Any.Builder_String_any Tryz.lays169 Tryz.Builder_Extra_169 B b l w h hBw
def Tryz.lays129_ren : Go.Shelf.Ren := ⟨fun | 129 => 250 | n => n, fun | 53 => 102 | 3 => 3 | 4 => 4 | 46 => 222 | 5 => 5 | 9 => 9 | n => n, fun | n => n⟩
theorem Tryz.lays129 : Go.Proofs.Lays.n129 Tryz.prog Tryz.lays129_ren := {
  mixed := by kernel_rfl
  f129 := Tryz.func250.trans (congrArg some (by kernel_rfl))
  t3 := Tryz.underlying3
  a3 := Tryz.isAgg3
  z3 := Tryz.sizeOf3
  v3 := Tryz.zeroValue3
  t4 := Tryz.underlying4
  a4 := Tryz.isAgg4
  z4 := Tryz.sizeOf4
  v4 := Tryz.zeroValue4
  t5 := Tryz.underlying5
  a5 := Tryz.isAgg5
  z5 := Tryz.sizeOf5
  v5 := Tryz.zeroValue5
  t9 := Tryz.underlying9
  a9 := Tryz.isAgg9
  z9 := Tryz.sizeOf9
  v9 := Tryz.zeroValue9
  t46 := Tryz.underlying222
  a46 := Tryz.isAgg222
  z46 := Tryz.sizeOf222
  v46 := Tryz.zeroValue222
  t53 := Tryz.underlying102
  a53 := Tryz.isAgg102
  z53 := Tryz.sizeOf102
  v53 := Tryz.zeroValue102 }
theorem Tryz.bits_Len64 (x : Int) (w : World) (h0 : 0 ≤ x) (h1 : x ≤ 18446744073709551615) :
    Calls Tryz.prog 250 #[.int .u64 x] w fun e w' => e = .returned (.int .i64 (Lib.bitLen x.toNat)) ∧ w' = w := Any.bits_Len64 Tryz.lays129 x w h0 h1
def Tryz.lays112_ren : Go.Shelf.Ren := ⟨fun | 112 => 38 | n => n, fun | 28 => 27 | 3 => 3 | 4 => 4 | 0 => 0 | n => n, fun | n => n⟩
theorem Tryz.lays112 : Go.Proofs.Lays.n112 Tryz.prog Tryz.lays112_ren := {
  mixed := by kernel_rfl
  f112 := Tryz.func38.trans (congrArg some (by kernel_rfl))
  t0 := Tryz.underlying0
  a0 := Tryz.isAgg0
  z0 := Tryz.sizeOf0
  v0 := Tryz.zeroValue0
  t3 := Tryz.underlying3
  a3 := Tryz.isAgg3
  z3 := Tryz.sizeOf3
  v3 := Tryz.zeroValue3
  t4 := Tryz.underlying4
  a4 := Tryz.isAgg4
  z4 := Tryz.sizeOf4
  v4 := Tryz.zeroValue4
  t28 := Tryz.underlying27
  a28 := Tryz.isAgg27
  z28 := Tryz.sizeOf27
  v28 := Tryz.zeroValue27 }
open Go.RowKit Go.Lib Go.Sort in
theorem Tryz.slices_Reverse_int (blk off cap : Nat) (zs : List Int) (w : World) (hH : Holds (Value.int .i64) w blk off zs.toArray) (hsz : zs.length ≤ 9223372036854775807) :
    Calls Tryz.prog 38 #[.slice (some ⟨blk, off, none⟩) zs.length cap] w fun e w' => e = .returned (.tuple #[]) ∧ ∃ n, w' = putRow (Value.int .i64) (Sort.ahead w n) blk off zs.reverse.toArray := Any.slices_Reverse_int Tryz.lays112 blk off cap zs w hH hsz
open Go.RowKit Go.Lib Go.Sort in
theorem Tryz.slices_Reverse_int_empty (a : Option Addr) (cap : Nat) (w : World) :
    Calls Tryz.prog 38 #[.slice a 0 cap] w fun e w' => e = .returned (.tuple #[]) ∧ w' = w := Any.slices_Reverse_int_empty Tryz.lays112 a cap w
end Go.Proofs

namespace Go.Proofs.YthgclfhfipfknaaGreat.Rec
set_option linter.unusedVariables false

theorem bl_le : ∀ (f x k : Nat), x < 2 ^ f → (Lib.bitLenAux f x ≤ k ↔ x < 2 ^ k)
  | 0, x, k, h => by
    have hx : x = 0 := by simpa using h
    subst hx
    have : 0 < 2 ^ k := Nat.pow_pos (by omega)
    simp [Lib.bitLenAux, this]
  | f + 1, x, k, h => by
    unfold Lib.bitLenAux
    by_cases h0 : x = 0
    · subst h0
      have : 0 < 2 ^ k := Nat.pow_pos (by omega)
      simp [this]
    · rw [if_neg h0]
      cases k with
      | zero => simp; omega
      | succ j =>
        have ih := bl_le f (x / 2) j (by rw [Nat.pow_succ] at h; omega)
        rw [Nat.pow_succ]
        constructor
        · intro g
          have := ih.1 (by omega)
          omega
        · intro g
          have := ih.2 (by omega)
          omega

/-- How many bytes the shortest form has. -/
def vsz (u : Nat) : Nat := if u < 128 then 1 else if u < 16384 then 2 else if u < 2097152 then 3 else if u < 268435456 then 4 else if u < 34359738368 then 5 else if u < 4398046511104 then 6 else if u < 562949953421312 then 7 else if u < 72057594037927936 then 8 else 9

theorem vsz_len (u : Nat) (h : u < 18446744073709551616) : min (max ((Lib.bitLen u + 6) / 7) 1) 9 = vsz u := by
  have h' : u < 2 ^ 64 := h
  have b7 := bl_le 64 u 7 h'
  have b14 := bl_le 64 u 14 h'
  have b21 := bl_le 64 u 21 h'
  have b28 := bl_le 64 u 28 h'
  have b35 := bl_le 64 u 35 h'
  have b42 := bl_le 64 u 42 h'
  have b49 := bl_le 64 u 49 h'
  have b56 := bl_le 64 u 56 h'
  unfold Lib.bitLen
  generalize Lib.bitLenAux 64 u = L at *
  unfold vsz
  simp only [show (2:Nat) ^ 7 = 128 by decide, show (2:Nat) ^ 14 = 16384 by decide, show (2:Nat) ^ 21 = 2097152 by decide, show (2:Nat) ^ 28 = 268435456 by decide, show (2:Nat) ^ 35 = 34359738368 by decide, show (2:Nat) ^ 42 = 4398046511104 by decide, show (2:Nat) ^ 49 = 562949953421312 by decide, show (2:Nat) ^ 56 = 72057594037927936 by decide] at *
  repeat' split
  all_goals omega

/-- A byte that says that another one comes. -/
def hiB (u : Nat) : UInt8 := UInt8.ofNat (u % 128 + 128)
/-- The k lowest digits of u to the base 128, the highest first. -/
def lows : Nat → Nat → List UInt8
  | 0, _ => []
  | k + 1, u => hiB (u / 128 ^ k) :: lows k u
theorem lows_length (k u : Nat) : (lows k u).length = k := by induction k with | zero => rfl | succ k ih => simp [lows, ih]

/-- The varint. -/
def putL (u : Nat) : List UInt8 := if u < 72057594037927936 then lows (vsz u - 1) (u / 128) ++ [UInt8.ofNat (u % 128)] else lows 8 (u / 256) ++ [UInt8.ofNat (u % 256)]
theorem vsz_pos (u : Nat) : 1 ≤ vsz u ∧ vsz u ≤ 9 := by
  unfold vsz
  (repeat' split) <;> omega
theorem vsz_nine (u : Nat) : vsz u = 9 ↔ ¬ u < 72057594037927936 := by
  unfold vsz
  (repeat' split) <;> omega
theorem putL_length (u : Nat) : (putL u).length = vsz u := by
  have := vsz_pos u
  have h9 := vsz_nine u
  unfold putL
  split
  · rw [List.length_append, lows_length]; simp; omega
  · rw [List.length_append, lows_length]; simp; omega
end Go.Proofs.YthgclfhfipfknaaGreat.Rec

namespace Go.Proofs.YthgclfhfipfknaaGreat.Rec
open Go.ChangeShapes Go.WideShapes Go.ChangeAt Go.RowKit
set_option linter.unusedVariables false

theorem cell_later {w w' : World} (b : Below w.heap.size w w') {a : Addr} {v : Value} (h : w.cell? a = some v) : w'.cell? a = some v := by
  refine (b.cell ?_).trans h
  refine Nat.lt_of_not_le fun hn => ?_
  have : w.heap[a.block]? = none := by simp; exact hn
  rw [World.cell?_of_block (w := World.mk #[] w.tape w.drawn w.os w.output) (w' := w) (by rw [this]; simp)] at h
  simp [World.cell?] at h
theorem below_trans {w w1 w2 : World} (h : Below w.heap.size w w1) (k : Below w1.heap.size w1 w2) : Below w.heap.size w w2 :=
  h.trans (k.mono h.size)
theorem new_below (w : World) (o : Obj) {W : World} (hW : w.alloc o = W) : Below w.heap.size w W := by
  subst hW; exact (Below.refl _ _).alloc (Nat.le_refl _) _
theorem hide {p : Prop} (h : p) : Hid p := h

set_option maxHeartbeats 1000000 in
theorem size_walk (u : Nat) (hu : u < 18446744073709551616) (w : World) : Calls Tryz.prog 196 #[.int .u64 (u : Int)] w fun e w' => e = .returned (.int .i64 (vsz u : Int)) ∧ w = w' := by
  have HL : Hid (∀ V, Calls Tryz.prog 250 #[.int .u64 (u : Int)] V fun e w' => e = .returned (.int .i64 (Lib.bitLen u)) ∧ w' = V) := fun V => Tryz.bits_Len64 (u : Int) V (by omega) (by omega)
  have hv := vsz_len u hu
  have hb : Lib.bitLen u ≤ 64 := by
    have := (bl_le 64 u 64 hu).2 hu
    exact this
  generalize Lib.bitLen u = L at HL hv hb
  have e1 : IntKind.i64.wrap ((L : Int) + 7) = (L : Int) + 7 := by rw [IntKind.wrap_i64]; omega
  have e2 : IntKind.i64.wrap ((L : Int) + 7 - 1) = (L : Int) + 6 := by rw [IntKind.wrap_i64]; omega
  have e3 : IntKind.i64.wrap (((L : Int) + 6).tdiv 7) = (((L + 6) / 7 : Nat) : Int) := by
    rw [Int.tdiv_eq_ediv_of_nonneg (by omega), IntKind.wrap_i64]; omega
  clear hu
  go_enter Tryz.func196, Tryz.ntmps196
  go_wp2_with (first
    | (go_at_call 250; with_reducible refine Calls.mono (HL.out _) ?_; rintro e w1 ⟨rfl, rfl⟩))
  go_ret
  refine ⟨?_, rfl⟩
  have : (min (max (((L : Int) + 6) / 7) 1) 9 : Int) = (vsz u : Int) := by omega
  rw [this]
  rfl
end Go.Proofs.YthgclfhfipfknaaGreat.Rec
