/- Varints, in plain words. -/
/- What lasts in memory; how many bytes a varint has. -/
/- PutVarint. -/
import Derived.Lib.BitFns
import Derived.Test.YtadohcgplbihdabGreatSh
import Derived.Test.YtadohcgplbihdabGreatChecked
import Derived.WalkKit
import Derived.ProofKit
import Derived.OpenShut
import Derived.Laws.StructEq
import Derived.Handy
import Derived.Deep.RegionHeld3
import Derived.Deep.Cut
import Derived.LoopN
import Derived.Lib.ItoaWalk
import Derived.Laws.MakeOwn
import Derived.Laws.IdiomStrings
import Derived.Lib.BufferRead
namespace Go.Proofs.YtadohcgplbihdabGreat.Rec
set_option linter.unusedVariables false

theorem bl_le : ∀ (f x k : Nat), x < 2 ^ f → (Lib.bitLenAux f x ≤ k ↔ x < 2 ^ k)
  | 0, x, k, h => by
    have hx : x = 0 := by simpa using h
    subst hx
    have : 0 < 2 ^ k := Nat.pow_pos (by omega)
    simp [Lib.bitLenAux, this]
  | f + 1, x, k, h => by
    unfold Lib.bitLenAux
    by_cases h0 : x = 0
    · subst h0
      have : 0 < 2 ^ k := Nat.pow_pos (by omega)
      simp [this]
    · rw [if_neg h0]
      cases k with
      | zero => simp; omega
      | succ j =>
        have ih := bl_le f (x / 2) j (by rw [Nat.pow_succ] at h; omega)
        rw [Nat.pow_succ]
        constructor
        · intro g
          have := ih.1 (by omega)
          omega
        · intro g
          have := ih.2 (by omega)
          omega

/-- How many bytes the shortest form has. -/
def vsz (u : Nat) : Nat := if u < 128 then 1 else if u < 16384 then 2 else if u < 2097152 then 3 else if u < 268435456 then 4 else if u < 34359738368 then 5 else if u < 4398046511104 then 6 else if u < 562949953421312 then 7 else if u < 72057594037927936 then 8 else 9

theorem vsz_len (u : Nat) (h : u < 18446744073709551616) : min (max ((Lib.bitLen u + 6) / 7) 1) 9 = vsz u := by
  have h' : u < 2 ^ 64 := h
  have b7 := bl_le 64 u 7 h'
  have b14 := bl_le 64 u 14 h'
  have b21 := bl_le 64 u 21 h'
  have b28 := bl_le 64 u 28 h'
  have b35 := bl_le 64 u 35 h'
  have b42 := bl_le 64 u 42 h'
  have b49 := bl_le 64 u 49 h'
  have b56 := bl_le 64 u 56 h'
  unfold Lib.bitLen
  generalize Lib.bitLenAux 64 u = L at *
  unfold vsz
  simp only [show (2:Nat) ^ 7 = 128 by decide, show (2:Nat) ^ 14 = 16384 by decide, show (2:Nat) ^ 21 = 2097152 by decide, show (2:Nat) ^ 28 = 268435456 by decide, show (2:Nat) ^ 35 = 34359738368 by decide, show (2:Nat) ^ 42 = 4398046511104 by decide, show (2:Nat) ^ 49 = 562949953421312 by decide, show (2:Nat) ^ 56 = 72057594037927936 by decide] at *
  repeat' split
  all_goals omega

/-- A byte that says that another one comes. -/
def hiB (u : Nat) : UInt8 := UInt8.ofNat (u % 128 + 128)
/-- The k lowest digits of u to the base 128, the highest first. -/
def lows : Nat → Nat → List UInt8
  | 0, _ => []
  | k + 1, u => hiB (u / 128 ^ k) :: lows k u
theorem lows_length (k u : Nat) : (lows k u).length = k := by induction k with | zero => rfl | succ k ih => simp [lows, ih]

/-- The varint. -/
def putL (u : Nat) : List UInt8 := if u < 72057594037927936 then lows (vsz u - 1) (u / 128) ++ [UInt8.ofNat (u % 128)] else lows 8 (u / 256) ++ [UInt8.ofNat (u % 256)]
theorem vsz_pos (u : Nat) : 1 ≤ vsz u ∧ vsz u ≤ 9 := by
  unfold vsz
  (repeat' split) <;> omega
theorem vsz_nine (u : Nat) : vsz u = 9 ↔ ¬ u < 72057594037927936 := by
  unfold vsz
  (repeat' split) <;> omega
theorem putL_length (u : Nat) : (putL u).length = vsz u := by
  have := vsz_pos u
  have h9 := vsz_nine u
  unfold putL
  split
  · rw [List.length_append, lows_length]; simp; omega
  · rw [List.length_append, lows_length]; simp; omega
end Go.Proofs.YtadohcgplbihdabGreat.Rec

namespace Go.Proofs.YtadohcgplbihdabGreat.Rec
open Go.ChangeShapes Go.WideShapes Go.ChangeAt Go.RowKit
set_option linter.unusedVariables false

theorem cell_later {w w' : World} (b : Below w.heap.size w w') {a : Addr} {v : Value} (h : w.cell? a = some v) : w'.cell? a = some v := by
  refine (b.cell ?_).trans h
  refine Nat.lt_of_not_le fun hn => ?_
  have : w.heap[a.block]? = none := by simp; exact hn
  rw [World.cell?_of_block (w := World.mk #[] w.tape w.drawn w.os w.output) (w' := w) (by rw [this]; simp)] at h
  simp [World.cell?] at h
theorem below_trans {w w1 w2 : World} (h : Below w.heap.size w w1) (k : Below w1.heap.size w1 w2) : Below w.heap.size w w2 :=
  h.trans (k.mono h.size)
theorem new_below (w : World) (o : Obj) {W : World} (hW : w.alloc o = W) : Below w.heap.size w W := by
  subst hW; exact (Below.refl _ _).alloc (Nat.le_refl _) _
theorem hide {p : Prop} (h : p) : Hid p := h

set_option maxHeartbeats 1000000 in
theorem size_walk (u : Nat) (hu : u < 18446744073709551616) (w : World) : Calls Tryz.prog 132 #[.int .u64 (u : Int)] w fun e w' => e = .returned (.int .i64 (vsz u : Int)) ∧ w = w' := by
  have HL : Hid (∀ V, Calls Tryz.prog 162 #[.int .u64 (u : Int)] V fun e w' => e = .returned (.int .i64 (Lib.bitLen u)) ∧ w' = V) := fun V => Tryz.bits_Len64 (u : Int) V (by omega) (by omega)
  have hv := vsz_len u hu
  have hb : Lib.bitLen u ≤ 64 := by
    have := (bl_le 64 u 64 hu).2 hu
    exact this
  generalize Lib.bitLen u = L at HL hv hb
  have e1 : IntKind.i64.wrap ((L : Int) + 7) = (L : Int) + 7 := by rw [IntKind.wrap_i64]; omega
  have e2 : IntKind.i64.wrap ((L : Int) + 7 - 1) = (L : Int) + 6 := by rw [IntKind.wrap_i64]; omega
  have e3 : IntKind.i64.wrap (((L : Int) + 6).tdiv 7) = (((L + 6) / 7 : Nat) : Int) := by
    rw [Int.tdiv_eq_ediv_of_nonneg (by omega), IntKind.wrap_i64]; omega
  clear hu
  go_enter Tryz.func132, Tryz.ntmps132
  go_wp2_with (first
    | (go_at_call 162; with_reducible refine Calls.mono (HL.out _) ?_; rintro e w1 ⟨rfl, rfl⟩))
  go_ret
  refine ⟨?_, rfl⟩
  have : (min (max (((L : Int) + 6) / 7) 1) 9 : Int) = (vsz u : Int) := by omega
  rw [this]
  rfl
end Go.Proofs.YtadohcgplbihdabGreat.Rec

namespace Go.Proofs.YtadohcgplbihdabGreat.Rec
open Go.ChangeShapes Go.WideShapes Go.ChangeAt Go.RowKit
set_option linter.unusedVariables false

def bcs (l : List UInt8) : List Value := l.map fun b => .int .u8 (b.toNat : Int)
theorem length_bcs (l : List UInt8) : (bcs l).length = l.length := by simp [bcs]
theorem bcs_append (l r : List UInt8) : bcs (l ++ r) = bcs l ++ bcs r := by simp [bcs]
theorem info5' : (Tryz.prog.info? 5).map (fun i => (i.zero, i.size, i.bytes)) = some (some (.int .u8 0), 1, 1) := by kernel_rfl
theorem set_block {w : World} {b : Nat} {cs : Array Value} {t : TypeId} (h : w.heap[b]? = some (.cells cs t (0, 0))) (o : Nat) (v : Value) : (w.setCell ⟨b, o, none⟩ v).heap[b]? = some (.cells (cs.setIfInBounds o v) t (0, 0)) := by
  simp [World.setCell, Array.getElem?_modify, h]
theorem block_cell {w : World} {b : Nat} {cs : Array Value} {t : TypeId} (h : w.heap[b]? = some (.cells cs t (0, 0))) (i : Nat) : w.cell? ⟨b, i, none⟩ = cs[i]? := by
  unfold World.cell?
  simp only [h]
  rfl

theorem made_zeros (n : Nat) : madeCells #[Value.int .u8 0] n = (bcs (List.replicate n 0)).toArray := by
  apply Array.ext
  · simp [madeCells, bcs]
  · intro i h1 h2
    simp [madeCells, bcs, Nat.mod_one]

theorem and127 : ∀ q : Fin 256, bits BinOp.and IntKind.u8 (q.val : Int) 127 = ((q.val % 128 : Nat) : Int) := by decide +kernel
theorem or128 : ∀ q : Fin 256, bits BinOp.or IntKind.u8 (q.val : Int) 128 = ((q.val % 128 + 128 : Nat) : Int) := by decide +kernel
theorem and_low (u : Nat) : bits BinOp.and IntKind.u8 ((u : Int) % 256) 127 = (((UInt8.ofNat (u % 128)).toNat : Nat) : Int) := by
  have h := and127 ⟨u % 256, Nat.mod_lt _ (by omega)⟩
  have e : ((u % 256 : Nat) : Int) = (u : Int) % 256 := by omega
  simp only [e] at h
  rw [h, UInt8.toNat_ofNat']
  omega
theorem or_high (u : Nat) : bits BinOp.or IntKind.u8 ((u : Int) % 256) 128 = ((hiB u).toNat : Int) := by
  have h := or128 ⟨u % 256, Nat.mod_lt _ (by omega)⟩
  have e : ((u % 256 : Nat) : Int) = (u : Int) % 256 := by omega
  simp only [e] at h
  unfold hiB
  rw [h, UInt8.toNat_ofNat']
  omega

theorem row_at {N : Nat} (h : 0 < N) (v : Value) (w : World) : (w.alloc (.cells ((madeCells #[Value.int .u8 0] N).setIfInBounds (N - 1) v) 5)).cell? ⟨w.heap.size, N - 1, none⟩ = some v := by
  rw [block_cell (cs := (madeCells #[Value.int .u8 0] N).setIfInBounds (N - 1) v) (t := 5) (by show (w.heap.push _)[w.heap.size]? = _; simp)]
  rw [made_zeros]
  have : N - 1 < N := by omega
  simp [bcs, this]

theorem row_zero {N : Nat} (h : 0 < N) (w : World) : (w.alloc (.cells (madeCells #[Value.int .u8 0] N) 5)).cell? ⟨w.heap.size, N - 1, none⟩ = some (.int .u8 0) := by
  rw [block_cell (cs := madeCells #[Value.int .u8 0] N) (t := 5) (by show (w.heap.push _)[w.heap.size]? = _; simp)]
  rw [made_zeros]
  have : N - 1 < N := by omega
  simp [bcs, this]
theorem block_frozen {w : World} {b : Nat} {cs : Array Value} {t : TypeId} (h : w.heap[b]? = some (.cells cs t (0, 0))) (i : Nat) : w.frozen? ⟨b, i, none⟩ = false := by
  simp [World.frozen?, h]
theorem row_open (cs : Array Value) (i : Nat) (w : World) : (w.alloc (.cells cs 5)).frozen? ⟨w.heap.size, i, none⟩ = false := by
  have : (w.alloc (.cells cs 5)).heap[w.heap.size]? = some (.cells cs 5) := by show (w.heap.push _)[w.heap.size]? = _; simp
  exact block_frozen this i

theorem bcs_at (l : List UInt8) (j : Nat) (h : j < l.length) : (bcs l).toArray[j]? = some (.int .u8 ((l[j]'h).toNat : Int)) := by simp [bcs, h]
theorem rep_set (J : Nat) (x : UInt8) (r : List UInt8) : (List.replicate (J + 1) 0 ++ r).set J x = List.replicate J 0 ++ x :: r := by
  rw [List.replicate_succ', List.append_assoc, List.set_append_right _ _ (by simp)]
  simp
theorem bcs_set (l : List UInt8) (i : Nat) (x : UInt8) : (bcs l).toArray.setIfInBounds i (.int .u8 (x.toNat : Int)) = (bcs (l.set i x)).toArray := by simp [bcs, List.map_set]
theorem made_last (N : Nat) (h : 0 < N) (x : UInt8) : (madeCells #[Value.int .u8 0] N).setIfInBounds (N - 1) (.int .u8 (x.toNat : Int)) = (bcs (List.replicate (N - 1) 0 ++ [x])).toArray := by
  rw [made_zeros, bcs_set]
  have := rep_set (N - 1) x []
  rw [show N - 1 + 1 = N by omega, List.append_nil] at this
  rw [this]

set_option maxHeartbeats 1000000 in
set_option maxRecDepth 100000 in
theorem put_walk (u : Nat) (hu : u < 18446744073709551616) (w : World) : Calls Tryz.prog 102 #[.int .u64 (u : Int)] w fun e w' => e = .returned (.string ⟨(putL u).toArray⟩) ∧ Below w.heap.size w w' := by
  obtain ⟨N, hN⟩ : ∃ N, vsz u = N := ⟨_, rfl⟩
  have hpos := vsz_pos u
  rw [hN] at hpos
  have HS : Hid (∀ V, Calls Tryz.prog 132 #[.int .u64 (u : Int)] V fun e w' => e = .returned (.int .i64 (N : Int)) ∧ V = w') := fun V => by have := size_walk u hu V; rw [hN] at this; exact this
  obtain ⟨i0, hi0, hz0, hz1, hz2⟩ := info_parts info5'
  have hr := run_make (P := Tryz.prog) w 116 5 i0 (.int .u8 0) Tryz.underlying116 hi0 hz0 .i64 .i64 N N (by omega) (by omega) (by rw [hz2]; omega) (by omega)
  simp only [Int.toNat_natCast] at hr
  by_cases h9 : N = 9
  · have hb9 : ((N : Int) == 9) = true := by simp; omega
    have hc1 := row_at (show 0 < N by omega) (.int .u8 ((u : Int) % 256)) w
    have hc0 := row_zero (show 0 < N by omega) w
    have hf0 := row_open (madeCells #[Value.int .u8 0] N) (N - 1) w
    have hf1 := row_open ((madeCells #[Value.int .u8 0] N).setIfInBounds (N - 1) (.int .u8 ((u : Int) % 256))) (N - 1) w
    obtain ⟨U, hU⟩ : ∃ U, u / 256 = U := ⟨_, rfl⟩
    obtain ⟨b0, hb0⟩ : ∃ b0 : UInt8, UInt8.ofNat (u % 256) = b0 := ⟨_, rfl⟩
    have hput : putL u = lows (N - 1) U ++ [b0] := by
      unfold putL
      have h := vsz_nine u
      rw [if_neg (by omega), ← hU, ← hb0, h9]
    have hbv : (u : Int) % 256 = (b0.toNat : Int) := by
      rw [← hb0, UInt8.toNat_ofNat']; omega
    have hUv : (u : Int) / 256 = (U : Int) := by omega
    rw [hput]
    clear h9
    go_enter Tryz.func102, Tryz.ntmps102
    go_wp2_with (first
      | (go_at_call 132; with_reducible refine Calls.mono (HS.out _) ?_; rintro e w1 ⟨rfl, rfl⟩))
    rename_i w0
    go_name_world W hW
    go_loopw [0, 5] (fun uv iv wr => ∃ k J : Nat, k + J + 1 = N ∧ uv = .int .u64 ((U / 128 ^ k : Nat) : Int) ∧ iv = .int .i64 ((J : Int) - 1) ∧ wr.heap[w.heap.size]? = some (.cells (bcs (List.replicate J 0 ++ (lows k U ++ [b0]))).toArray 5 (0, 0)) ∧ Below w.heap.size w wr) (fun _ iv _ => (intOf iv + 1).toNat)
    case atStart =>
      refine ⟨0, N - 1, by omega, by simp, by congr 1; omega, ?_, new_below w _ hW⟩
      rw [← hW]
      show (w.heap.push _)[w.heap.size]? = _
      rw [made_last N (by omega)]
      simp [lows]
    case round =>
      obtain ⟨k, J, hkJ, rfl, rfl, hblk, hbel⟩ := hrel
      have HB : Hid (Below w.heap.size w wr) := hbel
      have HK : Hid (wr.heap[w.heap.size]? = some (.cells (bcs (List.replicate J 0 ++ (lows k U ++ [b0]))).toArray 5 (0, 0))) := hblk
      clear hbel hr hW hc0 hc1 hf0 hf1
      cases J with
      | zero =>
        rw [show ((0 : Nat) : Int) - 1 = -1 by rfl]
        have hk : k = N - 1 := by omega
        subst hk
        have hl : (lows (N - 1) U ++ [b0]).length = N := by rw [List.length_append, lows_length]; simp; omega
        have hcv := run_convert_bytes_back (P := Tryz.prog) wr 116 9 5 ⟨w.heap.size, 0, none⟩ N (lows (N - 1) U ++ [b0]) Tryz.underlying116 Tryz.underlying5 Tryz.underlying9 (by
          intro j hj
          rw [show (⟨w.heap.size, 0, none⟩ : Addr).add j = ⟨w.heap.size, j, none⟩ by unfold Addr.add; split <;> simp_all]
          exact (block_cell hblk j).trans (bcs_at _ j hj))
        rw [hl] at hcv
        clear hblk hl
        go_wp2
        go_ret
        exact ⟨rfl, HB.out⟩
      | succ J =>
        rw [show ((J + 1 : Nat) : Int) - 1 = (J : Int) by omega]
        obtain ⟨q, hq⟩ : ∃ q, U / 128 ^ k = q := ⟨_, rfl⟩
        have hq2 : U / 128 ^ (k + 1) = q / 128 := by rw [Nat.pow_succ, ← Nat.div_div_eq_div_mul, hq]
        rw [hq]
        have l0 : (0 : Int) ≤ (J : Int) := by omega
        have l1 : (J : Int) < (N : Int) := by omega
        have hor := or_high q
        have hJl : J < (List.replicate (J + 1) (0 : UInt8) ++ (lows k U ++ [b0])).length := by simp; omega
        obtain ⟨x0, hcell⟩ : ∃ x, wr.cell? ⟨w.heap.size, J, none⟩ = some x := ⟨_, (block_cell hblk J).trans (bcs_at _ J hJl)⟩
        have hfro : wr.frozen? ⟨w.heap.size, J, none⟩ = false := block_frozen hblk J
        clear hblk
        go_wp2
        go_roundw
        case rel =>
          refine ⟨k + 1, J, by omega, by rw [hq2]; simp, rfl, ?_, HB.out.setCell (Nat.le_refl _) _⟩
          have h := set_block HK.out J (.int .u8 ((hiB q).toNat : Int))
          rw [bcs_set, rep_set] at h
          rw [show lows (k + 1) U = hiB q :: lows k U by rw [lows, hq]]
          exact h
        case measure => simp [intOf]
  have hb9 : ((N : Int) == 9) = false := by simp; omega
  have hc1 := row_at (show 0 < N by omega) (.int .u8 ((u : Int) % 256)) w
  have hc0 := row_zero (show 0 < N by omega) w
  have hf0 := row_open (madeCells #[Value.int .u8 0] N) (N - 1) w
  have hf1 := row_open ((madeCells #[Value.int .u8 0] N).setIfInBounds (N - 1) (.int .u8 ((u : Int) % 256))) (N - 1) w
  obtain ⟨U, hU⟩ : ∃ U, u / 128 = U := ⟨_, rfl⟩
  obtain ⟨b0, hb0⟩ : ∃ b0 : UInt8, UInt8.ofNat (u % 128) = b0 := ⟨_, rfl⟩
  have hput : putL u = lows (N - 1) U ++ [b0] := by
    unfold putL
    have h := vsz_nine u
    rw [if_pos (by omega), hN, ← hU, ← hb0]
  have hbv : (u : Int) % 128 % 256 = (b0.toNat : Int) := by
    rw [← hb0, UInt8.toNat_ofNat']; omega
  have hUv : (u : Int) / 128 = (U : Int) := by omega
  rw [hput]
  go_enter Tryz.func102, Tryz.ntmps102
  go_wp2_with (first
    | (go_at_call 132; with_reducible refine Calls.mono (HS.out _) ?_; rintro e w1 ⟨rfl, rfl⟩))
  rename_i w0
  go_name_world W hW
  go_loopw [0, 5] (fun uv iv wr => ∃ k J : Nat, k + J + 1 = N ∧ uv = .int .u64 ((U / 128 ^ k : Nat) : Int) ∧ iv = .int .i64 ((J : Int) - 1) ∧ wr.heap[w.heap.size]? = some (.cells (bcs (List.replicate J 0 ++ (lows k U ++ [b0]))).toArray 5 (0, 0)) ∧ Below w.heap.size w wr) (fun _ iv _ => (intOf iv + 1).toNat)
  case atStart =>
    refine ⟨0, N - 1, by omega, by simp, by congr 1; omega, ?_, new_below w _ hW⟩
    rw [← hW]
    show (w.heap.push _)[w.heap.size]? = _
    rw [and_low, hb0, made_last N (by omega)]
    simp [lows]
  case round =>
    obtain ⟨k, J, hkJ, rfl, rfl, hblk, hbel⟩ := hrel
    have HB : Hid (Below w.heap.size w wr) := hbel
    have HK : Hid (wr.heap[w.heap.size]? = some (.cells (bcs (List.replicate J 0 ++ (lows k U ++ [b0]))).toArray 5 (0, 0))) := hblk
    clear hbel hr hW hc0 hc1 hf0 hf1
    cases J with
    | zero =>
      rw [show ((0 : Nat) : Int) - 1 = -1 by rfl]
      have hk : k = N - 1 := by omega
      subst hk
      have hl : (lows (N - 1) U ++ [b0]).length = N := by rw [List.length_append, lows_length]; simp; omega
      have hcv := run_convert_bytes_back (P := Tryz.prog) wr 116 9 5 ⟨w.heap.size, 0, none⟩ N (lows (N - 1) U ++ [b0]) Tryz.underlying116 Tryz.underlying5 Tryz.underlying9 (by
        intro j hj
        rw [show (⟨w.heap.size, 0, none⟩ : Addr).add j = ⟨w.heap.size, j, none⟩ by unfold Addr.add; split <;> simp_all]
        exact (block_cell hblk j).trans (bcs_at _ j hj))
      rw [hl] at hcv
      clear hblk hl
      go_wp2
      go_ret
      exact ⟨rfl, HB.out⟩
    | succ J =>
      rw [show ((J + 1 : Nat) : Int) - 1 = (J : Int) by omega]
      obtain ⟨q, hq⟩ : ∃ q, U / 128 ^ k = q := ⟨_, rfl⟩
      have hq2 : U / 128 ^ (k + 1) = q / 128 := by rw [Nat.pow_succ, ← Nat.div_div_eq_div_mul, hq]
      rw [hq]
      have l0 : (0 : Int) ≤ (J : Int) := by omega
      have l1 : (J : Int) < (N : Int) := by omega
      have hor := or_high q
      have hJl : J < (List.replicate (J + 1) (0 : UInt8) ++ (lows k U ++ [b0])).length := by simp; omega
      obtain ⟨x0, hcell⟩ : ∃ x, wr.cell? ⟨w.heap.size, J, none⟩ = some x := ⟨_, (block_cell hblk J).trans (bcs_at _ J hJl)⟩
      have hfro : wr.frozen? ⟨w.heap.size, J, none⟩ = false := block_frozen hblk J
      clear hblk
      go_wp2
      go_roundw
      case rel =>
        refine ⟨k + 1, J, by omega, by rw [hq2]; simp, rfl, ?_, HB.out.setCell (Nat.le_refl _) _⟩
        have h := set_block HK.out J (.int .u8 ((hiB q).toNat : Int))
        rw [bcs_set, rep_set] at h
        rw [show lows (k + 1) U = hiB q :: lows k U by rw [lows, hq]]
        exact h
      case measure => simp [intOf]
end Go.Proofs.YtadohcgplbihdabGreat.Rec
