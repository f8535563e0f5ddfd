/- PutVarint. -/
/- Varints read: the plain part. -/
import Derived.Test.YthgclfhfipfknaaGreatVB
import Derived.LoopN
import Derived.Lib.ItoaWalk
import Derived.Laws.MakeOwn
import Derived.Laws.IdiomStrings
import Derived.Lib.BufferRead
namespace Go.Proofs.YthgclfhfipfknaaGreat.Rec
open Go.ChangeShapes Go.WideShapes Go.ChangeAt Go.RowKit
set_option linter.unusedVariables false

def bcs (l : List UInt8) : List Value := l.map fun b => .int .u8 (b.toNat : Int)
theorem length_bcs (l : List UInt8) : (bcs l).length = l.length := by simp [bcs]
theorem bcs_append (l r : List UInt8) : bcs (l ++ r) = bcs l ++ bcs r := by simp [bcs]
theorem info5' : (Tryz.prog.info? 5).map (fun i => (i.zero, i.size, i.bytes)) = some (some (.int .u8 0), 1, 1) := by kernel_rfl
theorem set_block {w : World} {b : Nat} {cs : Array Value} {t : TypeId} (h : w.heap[b]? = some (.cells cs t (0, 0))) (o : Nat) (v : Value) : (w.setCell ⟨b, o, none⟩ v).heap[b]? = some (.cells (cs.setIfInBounds o v) t (0, 0)) := by
  simp [World.setCell, Array.getElem?_modify, h]
theorem block_cell {w : World} {b : Nat} {cs : Array Value} {t : TypeId} (h : w.heap[b]? = some (.cells cs t (0, 0))) (i : Nat) : w.cell? ⟨b, i, none⟩ = cs[i]? := by
  unfold World.cell?
  simp only [h]
  rfl

theorem made_zeros (n : Nat) : madeCells #[Value.int .u8 0] n = (bcs (List.replicate n 0)).toArray := by
  apply Array.ext
  · simp [madeCells, bcs]
  · intro i h1 h2
    simp [madeCells, bcs, Nat.mod_one]

theorem and127 : ∀ q : Fin 256, bits BinOp.and IntKind.u8 (q.val : Int) 127 = ((q.val % 128 : Nat) : Int) := by decide +kernel
theorem or128 : ∀ q : Fin 256, bits BinOp.or IntKind.u8 (q.val : Int) 128 = ((q.val % 128 + 128 : Nat) : Int) := by decide +kernel
theorem and_low (u : Nat) : bits BinOp.and IntKind.u8 ((u : Int) % 256) 127 = (((UInt8.ofNat (u % 128)).toNat : Nat) : Int) := by
  have h := and127 ⟨u % 256, Nat.mod_lt _ (by omega)⟩
  have e : ((u % 256 : Nat) : Int) = (u : Int) % 256 := by omega
  simp only [e] at h
  rw [h, UInt8.toNat_ofNat']
  omega
theorem or_high (u : Nat) : bits BinOp.or IntKind.u8 ((u : Int) % 256) 128 = ((hiB u).toNat : Int) := by
  have h := or128 ⟨u % 256, Nat.mod_lt _ (by omega)⟩
  have e : ((u % 256 : Nat) : Int) = (u : Int) % 256 := by omega
  simp only [e] at h
  unfold hiB
  rw [h, UInt8.toNat_ofNat']
  omega

theorem row_at {N : Nat} (h : 0 < N) (v : Value) (w : World) : (w.alloc (.cells ((madeCells #[Value.int .u8 0] N).setIfInBounds (N - 1) v) 5)).cell? ⟨w.heap.size, N - 1, none⟩ = some v := by
  rw [block_cell (cs := (madeCells #[Value.int .u8 0] N).setIfInBounds (N - 1) v) (t := 5) (by show (w.heap.push _)[w.heap.size]? = _; simp)]
  rw [made_zeros]
  have : N - 1 < N := by omega
  simp [bcs, this]

theorem row_zero {N : Nat} (h : 0 < N) (w : World) : (w.alloc (.cells (madeCells #[Value.int .u8 0] N) 5)).cell? ⟨w.heap.size, N - 1, none⟩ = some (.int .u8 0) := by
  rw [block_cell (cs := madeCells #[Value.int .u8 0] N) (t := 5) (by show (w.heap.push _)[w.heap.size]? = _; simp)]
  rw [made_zeros]
  have : N - 1 < N := by omega
  simp [bcs, this]
theorem block_frozen {w : World} {b : Nat} {cs : Array Value} {t : TypeId} (h : w.heap[b]? = some (.cells cs t (0, 0))) (i : Nat) : w.frozen? ⟨b, i, none⟩ = false := by
  simp [World.frozen?, h]
theorem row_open (cs : Array Value) (i : Nat) (w : World) : (w.alloc (.cells cs 5)).frozen? ⟨w.heap.size, i, none⟩ = false := by
  have : (w.alloc (.cells cs 5)).heap[w.heap.size]? = some (.cells cs 5) := by show (w.heap.push _)[w.heap.size]? = _; simp
  exact block_frozen this i

theorem bcs_at (l : List UInt8) (j : Nat) (h : j < l.length) : (bcs l).toArray[j]? = some (.int .u8 ((l[j]'h).toNat : Int)) := by simp [bcs, h]
theorem rep_set (J : Nat) (x : UInt8) (r : List UInt8) : (List.replicate (J + 1) 0 ++ r).set J x = List.replicate J 0 ++ x :: r := by
  rw [List.replicate_succ', List.append_assoc, List.set_append_right _ _ (by simp)]
  simp
theorem bcs_set (l : List UInt8) (i : Nat) (x : UInt8) : (bcs l).toArray.setIfInBounds i (.int .u8 (x.toNat : Int)) = (bcs (l.set i x)).toArray := by simp [bcs, List.map_set]
theorem made_last (N : Nat) (h : 0 < N) (x : UInt8) : (madeCells #[Value.int .u8 0] N).setIfInBounds (N - 1) (.int .u8 (x.toNat : Int)) = (bcs (List.replicate (N - 1) 0 ++ [x])).toArray := by
  rw [made_zeros, bcs_set]
  have := rep_set (N - 1) x []
  rw [show N - 1 + 1 = N by omega, List.append_nil] at this
  rw [this]

set_option maxHeartbeats 1000000 in
set_option maxRecDepth 100000 in
theorem put_walk (u : Nat) (hu : u < 18446744073709551616) (w : World) : Calls Tryz.prog 117 #[.int .u64 (u : Int)] w fun e w' => e = .returned (.string ⟨(putL u).toArray⟩) ∧ Below w.heap.size w w' := by
  obtain ⟨N, hN⟩ : ∃ N, vsz u = N := ⟨_, rfl⟩
  have hpos := vsz_pos u
  rw [hN] at hpos
  have HS : Hid (∀ V, Calls Tryz.prog 196 #[.int .u64 (u : Int)] V fun e w' => e = .returned (.int .i64 (N : Int)) ∧ V = w') := fun V => by have := size_walk u hu V; rw [hN] at this; exact this
  obtain ⟨i0, hi0, hz0, hz1, hz2⟩ := info_parts info5'
  have hr := run_make (P := Tryz.prog) w 88 5 i0 (.int .u8 0) Tryz.underlying88 hi0 hz0 .i64 .i64 N N (by omega) (by omega) (by rw [hz2]; omega) (by omega)
  simp only [Int.toNat_natCast] at hr
  by_cases h9 : N = 9
  · have hb9 : ((N : Int) == 9) = true := by simp; omega
    have hc1 := row_at (show 0 < N by omega) (.int .u8 ((u : Int) % 256)) w
    have hc0 := row_zero (show 0 < N by omega) w
    have hf0 := row_open (madeCells #[Value.int .u8 0] N) (N - 1) w
    have hf1 := row_open ((madeCells #[Value.int .u8 0] N).setIfInBounds (N - 1) (.int .u8 ((u : Int) % 256))) (N - 1) w
    obtain ⟨U, hU⟩ : ∃ U, u / 256 = U := ⟨_, rfl⟩
    obtain ⟨b0, hb0⟩ : ∃ b0 : UInt8, UInt8.ofNat (u % 256) = b0 := ⟨_, rfl⟩
    have hput : putL u = lows (N - 1) U ++ [b0] := by
      unfold putL
      have h := vsz_nine u
      rw [if_neg (by omega), ← hU, ← hb0, h9]
    have hbv : (u : Int) % 256 = (b0.toNat : Int) := by
      rw [← hb0, UInt8.toNat_ofNat']; omega
    have hUv : (u : Int) / 256 = (U : Int) := by omega
    rw [hput]
    clear h9
    go_enter Tryz.func117, Tryz.ntmps117
    go_wp2_with (first
      | (go_at_call 196; with_reducible refine Calls.mono (HS.out _) ?_; rintro e w1 ⟨rfl, rfl⟩))
    rename_i w0
    go_name_world W hW
    go_loopw [0, 5] (fun uv iv wr => ∃ k J : Nat, k + J + 1 = N ∧ uv = .int .u64 ((U / 128 ^ k : Nat) : Int) ∧ iv = .int .i64 ((J : Int) - 1) ∧ wr.heap[w.heap.size]? = some (.cells (bcs (List.replicate J 0 ++ (lows k U ++ [b0]))).toArray 5 (0, 0)) ∧ Below w.heap.size w wr) (fun _ iv _ => (intOf iv + 1).toNat)
    case atStart =>
      refine ⟨0, N - 1, by omega, by simp, by congr 1; omega, ?_, new_below w _ hW⟩
      rw [← hW]
      show (w.heap.push _)[w.heap.size]? = _
      rw [made_last N (by omega)]
      simp [lows]
    case round =>
      obtain ⟨k, J, hkJ, rfl, rfl, hblk, hbel⟩ := hrel
      have HB : Hid (Below w.heap.size w wr) := hbel
      have HK : Hid (wr.heap[w.heap.size]? = some (.cells (bcs (List.replicate J 0 ++ (lows k U ++ [b0]))).toArray 5 (0, 0))) := hblk
      clear hbel hr hW hc0 hc1 hf0 hf1
      cases J with
      | zero =>
        rw [show ((0 : Nat) : Int) - 1 = -1 by rfl]
        have hk : k = N - 1 := by omega
        subst hk
        have hl : (lows (N - 1) U ++ [b0]).length = N := by rw [List.length_append, lows_length]; simp; omega
        have hcv := run_convert_bytes_back (P := Tryz.prog) wr 88 9 5 ⟨w.heap.size, 0, none⟩ N (lows (N - 1) U ++ [b0]) Tryz.underlying88 Tryz.underlying5 Tryz.underlying9 (by
          intro j hj
          rw [show (⟨w.heap.size, 0, none⟩ : Addr).add j = ⟨w.heap.size, j, none⟩ by unfold Addr.add; split <;> simp_all]
          exact (block_cell hblk j).trans (bcs_at _ j hj))
        rw [hl] at hcv
        clear hblk hl
        go_wp2
        go_ret
        exact ⟨rfl, HB.out⟩
      | succ J =>
        rw [show ((J + 1 : Nat) : Int) - 1 = (J : Int) by omega]
        obtain ⟨q, hq⟩ : ∃ q, U / 128 ^ k = q := ⟨_, rfl⟩
        have hq2 : U / 128 ^ (k + 1) = q / 128 := by rw [Nat.pow_succ, ← Nat.div_div_eq_div_mul, hq]
        rw [hq]
        have l0 : (0 : Int) ≤ (J : Int) := by omega
        have l1 : (J : Int) < (N : Int) := by omega
        have hor := or_high q
        have hJl : J < (List.replicate (J + 1) (0 : UInt8) ++ (lows k U ++ [b0])).length := by simp; omega
        obtain ⟨x0, hcell⟩ : ∃ x, wr.cell? ⟨w.heap.size, J, none⟩ = some x := ⟨_, (block_cell hblk J).trans (bcs_at _ J hJl)⟩
        have hfro : wr.frozen? ⟨w.heap.size, J, none⟩ = false := block_frozen hblk J
        clear hblk
        go_wp2
        go_roundw
        case rel =>
          refine ⟨k + 1, J, by omega, by rw [hq2]; simp, rfl, ?_, HB.out.setCell (Nat.le_refl _) _⟩
          have h := set_block HK.out J (.int .u8 ((hiB q).toNat : Int))
          rw [bcs_set, rep_set] at h
          rw [show lows (k + 1) U = hiB q :: lows k U by rw [lows, hq]]
          exact h
        case measure => simp [intOf]
  have hb9 : ((N : Int) == 9) = false := by simp; omega
  have hc1 := row_at (show 0 < N by omega) (.int .u8 ((u : Int) % 256)) w
  have hc0 := row_zero (show 0 < N by omega) w
  have hf0 := row_open (madeCells #[Value.int .u8 0] N) (N - 1) w
  have hf1 := row_open ((madeCells #[Value.int .u8 0] N).setIfInBounds (N - 1) (.int .u8 ((u : Int) % 256))) (N - 1) w
  obtain ⟨U, hU⟩ : ∃ U, u / 128 = U := ⟨_, rfl⟩
  obtain ⟨b0, hb0⟩ : ∃ b0 : UInt8, UInt8.ofNat (u % 128) = b0 := ⟨_, rfl⟩
  have hput : putL u = lows (N - 1) U ++ [b0] := by
    unfold putL
    have h := vsz_nine u
    rw [if_pos (by omega), hN, ← hU, ← hb0]
  have hbv : (u : Int) % 128 % 256 = (b0.toNat : Int) := by
    rw [← hb0, UInt8.toNat_ofNat']; omega
  have hUv : (u : Int) / 128 = (U : Int) := by omega
  rw [hput]
  go_enter Tryz.func117, Tryz.ntmps117
  go_wp2_with (first
    | (go_at_call 196; with_reducible refine Calls.mono (HS.out _) ?_; rintro e w1 ⟨rfl, rfl⟩))
  rename_i w0
  go_name_world W hW
  go_loopw [0, 5] (fun uv iv wr => ∃ k J : Nat, k + J + 1 = N ∧ uv = .int .u64 ((U / 128 ^ k : Nat) : Int) ∧ iv = .int .i64 ((J : Int) - 1) ∧ wr.heap[w.heap.size]? = some (.cells (bcs (List.replicate J 0 ++ (lows k U ++ [b0]))).toArray 5 (0, 0)) ∧ Below w.heap.size w wr) (fun _ iv _ => (intOf iv + 1).toNat)
  case atStart =>
    refine ⟨0, N - 1, by omega, by simp, by congr 1; omega, ?_, new_below w _ hW⟩
    rw [← hW]
    show (w.heap.push _)[w.heap.size]? = _
    rw [and_low, hb0, made_last N (by omega)]
    simp [lows]
  case round =>
    obtain ⟨k, J, hkJ, rfl, rfl, hblk, hbel⟩ := hrel
    have HB : Hid (Below w.heap.size w wr) := hbel
    have HK : Hid (wr.heap[w.heap.size]? = some (.cells (bcs (List.replicate J 0 ++ (lows k U ++ [b0]))).toArray 5 (0, 0))) := hblk
    clear hbel hr hW hc0 hc1 hf0 hf1
    cases J with
    | zero =>
      rw [show ((0 : Nat) : Int) - 1 = -1 by rfl]
      have hk : k = N - 1 := by omega
      subst hk
      have hl : (lows (N - 1) U ++ [b0]).length = N := by rw [List.length_append, lows_length]; simp; omega
      have hcv := run_convert_bytes_back (P := Tryz.prog) wr 88 9 5 ⟨w.heap.size, 0, none⟩ N (lows (N - 1) U ++ [b0]) Tryz.underlying88 Tryz.underlying5 Tryz.underlying9 (by
        intro j hj
        rw [show (⟨w.heap.size, 0, none⟩ : Addr).add j = ⟨w.heap.size, j, none⟩ by unfold Addr.add; split <;> simp_all]
        exact (block_cell hblk j).trans (bcs_at _ j hj))
      rw [hl] at hcv
      clear hblk hl
      go_wp2
      go_ret
      exact ⟨rfl, HB.out⟩
    | succ J =>
      rw [show ((J + 1 : Nat) : Int) - 1 = (J : Int) by omega]
      obtain ⟨q, hq⟩ : ∃ q, U / 128 ^ k = q := ⟨_, rfl⟩
      have hq2 : U / 128 ^ (k + 1) = q / 128 := by rw [Nat.pow_succ, ← Nat.div_div_eq_div_mul, hq]
      rw [hq]
      have l0 : (0 : Int) ≤ (J : Int) := by omega
      have l1 : (J : Int) < (N : Int) := by omega
      have hor := or_high q
      have hJl : J < (List.replicate (J + 1) (0 : UInt8) ++ (lows k U ++ [b0])).length := by simp; omega
      obtain ⟨x0, hcell⟩ : ∃ x, wr.cell? ⟨w.heap.size, J, none⟩ = some x := ⟨_, (block_cell hblk J).trans (bcs_at _ J hJl)⟩
      have hfro : wr.frozen? ⟨w.heap.size, J, none⟩ = false := block_frozen hblk J
      clear hblk
      go_wp2
      go_roundw
      case rel =>
        refine ⟨k + 1, J, by omega, by rw [hq2]; simp, rfl, ?_, HB.out.setCell (Nat.le_refl _) _⟩
        have h := set_block HK.out J (.int .u8 ((hiB q).toNat : Int))
        rw [bcs_set, rep_set] at h
        rw [show lows (k + 1) U = hiB q :: lows k U by rw [lows, hq]]
        exact h
      case measure => simp [intOf]
end Go.Proofs.YthgclfhfipfknaaGreat.Rec

namespace Go.Proofs.YthgclfhfipfknaaGreat.Rec
set_option linter.unusedVariables false

/-- The number with which bytes begin, behind n bytes that made u, and how many bytes it has. -/
def beg : List UInt8 → Nat → Nat → Nat × Nat
  | [], _, _ => (0, 0)
  | b :: r, n, u => if n = 8 then (u * 256 + b.toNat, 9) else if b.toNat < 128 then (u * 128 + b.toNat, n + 1) else beg r (n + 1) (u * 128 + b.toNat % 128)

/-- Digits as a number. -/
def valD (d : List UInt8) : Nat := d.foldl (fun u b => u * 128 + b.toNat % 128) 0
theorem valD_snoc (d : List UInt8) (b : UInt8) : valD (d ++ [b]) = valD d * 128 + b.toNat % 128 := by simp [valD]
theorem lows_snoc (k u : Nat) : lows (k + 1) u = lows k (u / 128) ++ [hiB u] := by
  induction k with
  | zero => simp [lows]
  | succ k ih =>
    rw [lows, ih, lows]
    rw [show u / 128 / 128 ^ k = u / 128 ^ (k + 1) by rw [Nat.pow_succ, Nat.mul_comm, Nat.div_div_eq_div_mul]]
    rfl
theorem hiB_at (b : UInt8) (v : Nat) (h : 128 ≤ b.toNat) : hiB (v * 128 + b.toNat % 128) = b := by
  unfold hiB
  have := b.toNat_lt
  have e : (v * 128 + b.toNat % 128) % 128 + 128 = b.toNat := by omega
  rw [e]
  exact UInt8.ofNat_toNat
theorem snoc_ind {P : List UInt8 → Prop} (h0 : P []) (hs : ∀ d b, P d → P (d ++ [b])) (d : List UInt8) : P d := by
  rw [← List.reverse_reverse d]
  induction d.reverse with
  | nil => exact h0
  | cons b r ih => rw [List.reverse_cons]; exact hs _ _ ih
theorem lows_val (d : List UInt8) : (∀ b ∈ d, 128 ≤ b.toNat) → lows d.length (valD d) = d := by
  refine snoc_ind (P := fun d => (∀ b ∈ d, 128 ≤ b.toNat) → lows d.length (valD d) = d) (fun _ => rfl) (fun d b ih h => ?_) d
  · skip
    rw [List.length_append, show [b].length = 1 from rfl, lows_snoc, valD_snoc]
    rw [hiB_at b _ (h b (by simp))]
    rw [show (valD d * 128 + b.toNat % 128) / 128 = valD d by omega]
    rw [ih (fun c hc => h c (by simp [hc]))]
theorem valD_lt (d : List UInt8) : valD d < 128 ^ d.length := by
  refine snoc_ind (P := fun d => valD d < 128 ^ d.length) (by simp [valD]) (fun d b ih => ?_) d
  · skip
    rw [valD_snoc, List.length_append, show [b].length = 1 from rfl, Nat.pow_succ]
    omega

/-- What the beginning is: digits, then the last byte. -/
theorem beg_form (l d : List UInt8) (hd : ∀ b ∈ d, 128 ≤ b.toNat) (hl : d.length ≤ 8) : ∀ u n, beg l d.length (valD d) = (u, n) → n = 0 ∧ u = 0 ∨ ∃ (e : List UInt8) (b : UInt8), (∀ c ∈ e, 128 ≤ c.toNat) ∧ e.length + 1 = n ∧ n ≤ 9 ∧ (d ++ l).take n = e ++ [b] ∧ n ≤ (d ++ l).length ∧ (n = 9 ∧ u = valD e * 256 + b.toNat ∨ n < 9 ∧ b.toNat < 128 ∧ u = valD e * 128 + b.toNat) := by
  induction l generalizing d with
  | nil =>
    intro u n h
    simp only [beg, Prod.mk.injEq] at h
    exact .inl ⟨h.2.symm, h.1.symm⟩
  | cons b r ih =>
    intro u n h
    rw [beg] at h
    by_cases h8 : d.length = 8
    · rw [if_pos h8] at h
      simp only [Prod.mk.injEq] at h
      refine .inr ⟨d, b, hd, by omega, by omega, ?_, by simp; omega, .inl ⟨by omega, by omega⟩⟩
      rw [show d ++ b :: r = (d ++ [b]) ++ r by simp, List.take_append_of_le_length (by simp; omega), List.take_of_length_le (by simp; omega)]
    · rw [if_neg h8] at h
      by_cases hb : b.toNat < 128
      · rw [if_pos hb] at h
        simp only [Prod.mk.injEq] at h
        refine .inr ⟨d, b, hd, by omega, by omega, ?_, by simp; omega, .inr ⟨by omega, hb, by omega⟩⟩
        rw [show d ++ b :: r = (d ++ [b]) ++ r by simp, List.take_append_of_le_length (by simp; omega), List.take_of_length_le (by simp; omega)]
      · rw [if_neg hb] at h
        have := ih (d ++ [b]) (fun c hc => by
          rcases List.mem_append.1 hc with h | h
          · exact hd c h
          · have : c = b := by simpa using h
            subst this; omega) (by simp; omega) u n (by rw [valD_snoc, List.length_append]; exact h)
        rw [show d ++ b :: r = (d ++ [b]) ++ r by simp]
        exact this

/-- A text begins with a varint just if the number's own bytes are the beginning. -/
theorem beg_iff (l : List UInt8) (u n : Nat) (h : beg l 0 0 = (u, n)) : (n = 0 ∧ u = 0) ∨ (0 < n ∧ n ≤ 9 ∧ n ≤ l.length ∧ u < 18446744073709551616 ∧ (n = vsz u ↔ putL u = l.take n)) := by
  rcases beg_form l [] (by simp) (by simp) u n h with h0 | ⟨e, b, he, hn, h9, ht, hl, hu⟩
  · exact .inl h0
  · right
    have hb := b.toNat_lt
    have hv := valD_lt e
    simp only [List.nil_append] at ht hl
    have hlow := lows_val e he
    have hub : u < 18446744073709551616 := by
      rcases hu with ⟨hn9, rfl⟩ | ⟨hn9, hb1, rfl⟩
      · rw [show e.length = 8 by omega] at hv
        simp only [Nat.reducePow] at hv
        omega
      · have : 128 ^ e.length ≤ 128 ^ 7 := Nat.pow_le_pow_right (by omega) (by omega)
        simp only [Nat.reducePow] at this
        omega
    refine ⟨by omega, h9, hl, hub, fun hs => ?_, fun hp => ?_⟩
    · rw [ht]
      unfold putL
      have hnine := vsz_nine u
      rcases hu with ⟨hn9, rfl⟩ | ⟨hn9, hb1, rfl⟩
      · rw [if_neg (by omega), show (valD e * 256 + b.toNat) / 256 = valD e by omega, show (valD e * 256 + b.toNat) % 256 = b.toNat by omega, show 8 = e.length by omega, hlow]
        rw [UInt8.ofNat_toNat]
      · rw [if_pos (by omega), ← hs, show (valD e * 128 + b.toNat) / 128 = valD e by omega, show (valD e * 128 + b.toNat) % 128 = b.toNat by omega, show n - 1 = e.length by omega, hlow]
        rw [UInt8.ofNat_toNat]
    · have := congrArg List.length hp
      rw [putL_length, List.length_take] at this
      omega
end Go.Proofs.YthgclfhfipfknaaGreat.Rec
