/- Package spill: a stub without a chain is read. -/
/- Package spill: what is found of a stub that is cut short. -/
/- Package spill: any stub is read. -/
/- Package spill: any stub is read: the calls. -/
import Derived.Test.YthgclfhfipfknaaGreatPLC
import Derived.Test.YthgclfhfipfknaaGreatBA
namespace Go.Proofs.YthgclfhfipfknaaGreat
open Go.ChangeShapes Go.WideShapes Go.ChangeAt Go.RowKit Go.Maps
set_option linter.unusedVariables false

set_option maxRecDepth 20000 in
set_option maxHeartbeats 1000000 in
theorem read_short (w : World) (s : ByteArray) (n : Nat) (hn : n ≤ 40) (hu : Rec.vrdU s.data.toList = n) (hN : Rec.vrdN s.data.toList = 1) (hsz : n + 1 ≤ s.size) (hs : s.size ≤ 140737488355328) :
    Calls Tryz.prog 99 #[.string s] w fun e w' => e = .returned (.tuple #[.agg (stA n (s.extract 1 (n + 1)) 0), .int .i64 (n + 1 : Nat), .int .i64 0]) ∧ Below w.heap.size w w' := by
  have HV := hide (fun V => Rec.varint_walk s hs V)
  rw [hu, hN] at HV
  have l1 : ¬ (4000 : Int) < (n : Int) := by omega
  have l2 : ¬ (40 : Int) < (n : Int) := by omega
  have l3 : min (n : Int) 40 = n := by omega
  have l4 : IntKind.i64.wrap (n : Int) = n := by rw [IntKind.wrap_i64]; omega
  have l5 : IntKind.i64.wrap (1 + (n : Int)) = (n + 1 : Nat) := by rw [IntKind.wrap_i64]; omega
  have l6 : ¬ (s.size : Int) < (n + 1 : Nat) := by omega
  clear hu hN
  go_enter Tryz.func99, Tryz.ntmps99
  go_wp2_with (first
    | (go_at_call 183; (with_reducible refine Calls.mono (HV.out _) ?_); rintro e w4 ⟨rfl, rfl⟩))
  go_loopw [11] (fun v wr => v = .int .i64 ((n : Int) + 1) ∧ wr = ((w.alloc (.cells #[.int .i64 0, .string ⟨#[]⟩, .int .i64 0] 90)).alloc (.cells #[.int .i64 n, .string (s.extract 1 (n + 1)), .int .i64 0] 90))) (fun _ _ => 0)
  case atStart => exact ⟨rfl, rfl⟩
  case round =>
    obtain ⟨rfl, rfl⟩ := hrel
    go_wp2
    go_returns
    exact ⟨rfl, below_trans (below_alloc _ _) (below_alloc _ _)⟩
set_option maxRecDepth 20000 in
set_option maxHeartbeats 1000000 in
theorem read_cut (w : World) (s : ByteArray) (n : Nat) (hn : n ≤ 40) (hu : Rec.vrdU s.data.toList = n) (hN : Rec.vrdN s.data.toList = 1) (hsz : s.size < n + 1) :
    Calls Tryz.prog 99 #[.string s] w fun e w' => e = .returned (.tuple #[.agg (stA 0 ⟨#[]⟩ 0), .int .i64 0, .int .i64 8]) ∧ Below w.heap.size w w' := by
  have HV := hide (fun V => Rec.varint_walk s (by omega) V)
  rw [hu, hN] at HV
  have l1 : ¬ (4000 : Int) < (n : Int) := by omega
  have l2 : ¬ (40 : Int) < (n : Int) := by omega
  have l3 : min (n : Int) 40 = n := by omega
  have l4 : IntKind.i64.wrap (n : Int) = n := by rw [IntKind.wrap_i64]; omega
  have l6 : (s.size : Int) < (n : Int) + 1 := by omega
  clear hu hN
  go_enter Tryz.func99, Tryz.ntmps99
  go_wp2_with (first
    | (go_at_call 183; (with_reducible refine Calls.mono (HV.out _) ?_); rintro e w4 ⟨rfl, rfl⟩))
  go_returns
  exact ⟨rfl, below_trans (below_alloc _ _) (below_alloc _ _)⟩
end Go.Proofs.YthgclfhfipfknaaGreat

namespace Go.Proofs.YthgclfhfipfknaaGreat
variable {sv : Value}
open Go.ChangeShapes Go.WideShapes Go.ChangeAt Go.RowKit Go.Maps
set_option linter.unusedVariables false

theorem behind_e (w : World) (n : Nat) (s : ByteArray) (f : Int) (h1 : s.size ≤ n) (h2 : n ≤ 4000) : Calls Tryz.prog 101 #[.agg (stA n s f)] w fun e w' => e = .returned (.int .i64 ((n : Int) - s.size)) ∧ Below w.heap.size w w' := by
  have l1 : IntKind.i64.wrap ((n : Int) - s.size) = (n : Int) - s.size := by rw [IntKind.wrap_i64]; omega
  unfold stA
  go_enter Tryz.func101, Tryz.ntmps101
  go_wp2
  go_ret
  exact ⟨rfl, below_alloc _ _⟩
theorem Tr.mayR {w : World} {t pm n : Nat} {P : Nat → List UInt8} {K : Nat} {wr : Bool} (h : Tr sv w t pm n P K wr) : PgK w (some ⟨t, 0, none⟩) 0 zs 4 := .out h (.inl (by omega))
set_option maxRecDepth 20000 in
set_option maxHeartbeats 1000000 in
theorem find_cut (w : World) (t pm m : Nat) {P : Nat → List UInt8} {K : Nat} {wr : Bool} (h : Tr sv w t pm m P K wr) (s : ByteArray) (n : Nat) (hn : n ≤ 40) (hu : Rec.vrdU s.data.toList = n) (hN : Rec.vrdN s.data.toList = 1) (hsz : s.size < n + 1) :
    Calls Tryz.prog 37 #[.pointer (some ⟨t, 0, none⟩), .string s] w fun e w' => e = .returned (.tuple #[.agg (kpA ⟨#[]⟩ 0 none 0 0), .int .i64 8]) ∧ Below w.heap.size w w' := by
  have HM := hide (fun X (hb : Below w.heap.size w X) => pmayRead_e X _ zs zs_length 4 (h.later hb).mayR)
  have HR := hide (fun X => read_cut X s n hn hu hN hsz)
  have HI0 := hide (sizeK ⟨#[]⟩ 0 none 0 0)
  have HJ0 := hide (sizeS 0 ⟨#[]⟩ 0)
  have HK0 := hide (kp_new w)
  have HB0 := hide (below_alloc w (.cells #[.string ⟨#[]⟩, .int .i64 0, .slice none 0 0] 79))
  clear h hu hN hsz hn
  go_enter Tryz.func37, Tryz.ntmps37
  go_wp2
  go_step3
  go_wp2_with (first
    | (go_at_call 98; (with_reducible refine Calls.mono (HM.out _ HB0.out) ?_); rintro e w4 ⟨rfl, hb⟩; rw [show unN 4 = 0 by rfl]; have HB4 := hide (below_trans HB0.out hb); have HK4 := hide (Blk.later HK0.out hb); clear hb)
    | (go_at_call 99; (with_reducible refine Calls.mono (HR.out _) ?_); rintro e w5 ⟨rfl, hb⟩; have HB5 := hide (below_trans (below_trans HB4.out hb) (below_alloc w5 (.cells #[.int .i64 0, .string ⟨#[]⟩, .int .i64 0] 90))); have HK5 := hide (Blk.later (Blk.later HK4.out hb) (below_alloc w5 (.cells #[.int .i64 0, .string ⟨#[]⟩, .int .i64 0] 90))); have HS5 := hide (st_new w5); have HZ5 := hide (show w.heap.size < w5.heap.size from Nat.lt_of_lt_of_le (Blk.later HK4.out hb).lt (Nat.le_refl _)); clear hb)
    | ((with_reducible refine atSt 90 ?_); refine wp_storeB (c := stA 0 ⟨#[]⟩ 0) HJ0.out rfl (st_one _ _ _) HS5.out _ _ (by rfl) (by rfl) (by rfl) (by rfl) ?_; intro W6 hb6 ho6; have HK6 := hide (Blk.only HK5.out ho6 (by have := HZ5.out; simp; omega)); have HB6 := hide (below_only1 HB5.out ho6 (Nat.le_of_lt HZ5.out)); clear hb6 ho6)
    | ((with_reducible refine atSt 79 ?_); refine wp_storeB (c := kpA ⟨#[]⟩ 0 none 0 0) HI0.out rfl (kp_one _ _ _ _ _) HK6.out _ _ (by rfl) (by rfl) (by rfl) (by rfl) ?_; intro W7 hb7 ho7; have HK7 := hide hb7; have HB7 := hide (below_only1 HB6.out ho7 (Nat.le_refl _)); clear hb7 ho7))
  rw [Exit.noGoto_ret]
  refine ret_blk2 (c := kpA ⟨#[]⟩ 0 none 0 0) HI0.out uK Tryz.results37 (by rfl) (by rfl) HK7.out ?_
  exact ⟨rfl, HB7.out⟩
end Go.Proofs.YthgclfhfipfknaaGreat

namespace Go.Proofs.YthgclfhfipfknaaGreat
open Go.ChangeShapes Go.WideShapes Go.ChangeAt Go.RowKit Go.Maps
set_option linter.unusedVariables false

theorem or_i64 (x b : Nat) (hb : b < 256) (h : x < 16777216) : bits BinOp.or IntKind.i64 (IntKind.i64.wrap ((x : Int) * 256)) (IntKind.i64.wrap (b : Int)) = ((x * 256 + b : Nat) : Int) := by
  have e : x * 2 ^ 8 ||| b = x * 2 ^ 8 + b := by
    rw [← Nat.shiftLeft_eq, Nat.shiftLeft_add_eq_or_of_lt hb]
  have e1 : IntKind.i64.wrap ((x : Int) * 256) = ((x * 2 ^ 8 : Nat) : Int) := by rw [IntKind.wrap_i64]; omega
  have e2 : IntKind.i64.wrap (b : Int) = (b : Int) := by rw [IntKind.wrap_i64]; omega
  have h1 : x * 2 ^ 8 < 2 ^ 64 := by omega
  have h2 : b < 2 ^ 64 := by omega
  rw [e1, e2]
  unfold bits
  show IntKind.i64.wrap ((BitVec.ofInt 64 ((x * 2 ^ 8 : Nat) : Int) ||| BitVec.ofInt 64 (b : Int)).toNat : Int) = _
  rw [BitVec.ofInt_natCast, BitVec.ofInt_natCast, BitVec.toNat_or, BitVec.toNat_ofNat, BitVec.toNat_ofNat, Nat.mod_eq_of_lt h1, Nat.mod_eq_of_lt h2, e, IntKind.wrap_i64]
  omega
/-- How many cells a page of a chain has. -/
def cellsN (left : Nat) : Nat := (min left 240 + 59) / 60
theorem cellsOf_e (w : World) (left : Nat) (h : left ≤ 4000) : Calls Tryz.prog 105 #[.int .i64 (left : Int)] w fun e w' => e = .returned (.int .i64 (cellsN left : Int)) ∧ w = w' := by
  have l1 : min (left : Int) 240 = ((min left 240 : Nat) : Int) := by omega
  have l2 : IntKind.i64.wrap (((min left 240 : Nat) : Int) + 60) = ((min left 240 : Nat) : Int) + 60 := by rw [IntKind.wrap_i64]; omega
  have l3 : IntKind.i64.wrap (((min left 240 : Nat) : Int) + 60 - 1) = ((min left 240 + 59 : Nat) : Int) := by rw [IntKind.wrap_i64]; omega
  have l4 : IntKind.i64.wrap (((min left 240 + 59 : Nat) : Int).tdiv 60) = (cellsN left : Int) := by
    unfold cellsN
    rw [Int.tdiv_eq_ediv_of_nonneg (by omega), IntKind.wrap_i64]; omega
  go_enter Tryz.func105, Tryz.ntmps105
  go_wp2
  go_ret
  exact ⟨rfl, rfl⟩
/-- The parts of a stub that is read. -/
def rdA (s : ByteArray) : Nat := Rec.vrdN s.data.toList
def rdU (s : ByteArray) : Nat := Rec.vrdU s.data.toList
def rdEnd (s : ByteArray) : Nat := rdA s + min (rdU s) 40
def rdSz (s : ByteArray) : Nat := if 40 < rdU s then rdEnd s + 4 else rdEnd s
def rdOk (s : ByteArray) : Prop := rdA s ≠ 0 ∧ rdU s ≤ 4000 ∧ rdSz s ≤ s.size
def rdH (s : ByteArray) : ByteArray := s.extract (rdA s) (rdEnd s)
/-- A number of so many bytes, from a place on. -/
def nmF (l : List UInt8) (e : Nat) : Nat → Nat
  | 0 => 0
  | j + 1 => nmF l e j * 256 + byt l (e + j)
theorem nmF_lt (l : List UInt8) (e : Nat) : ∀ j, nmF l e j < 256 ^ j
  | 0 => by simp [nmF]
  | j + 1 => by
    have h1 := nmF_lt l e j
    have h2 := byt_lt l (e + j)
    simp only [nmF, Nat.pow_succ]
    omega
def rdF (s : ByteArray) : Nat := nmF s.data.toList (rdEnd s) (rdSz s - rdEnd s)
theorem rdF_lt (s : ByteArray) : rdF s < 4294967296 := by
  have h := nmF_lt s.data.toList (rdEnd s) (rdSz s - rdEnd s)
  have h2 : rdSz s - rdEnd s ≤ 4 := by unfold rdSz; split <;> omega
  have : 256 ^ (rdSz s - rdEnd s) ≤ 256 ^ 4 := Nat.pow_le_pow_right (by omega) h2
  unfold rdF
  omega
theorem vrd_le (s : ByteArray) : rdA s ≤ 9 ∧ rdA s ≤ s.size ∧ rdU s < 18446744073709551616 := by
  obtain ⟨u, n, h⟩ : ∃ u n, Rec.beg s.data.toList 0 0 = (u, n) := ⟨_, _, rfl⟩
  have hl : s.data.toList.length = s.size := bytes_size s
  have := Rec.beg_iff _ _ _ h
  unfold rdA rdU Rec.vrdN Rec.vrdU
  rw [h]
  simp only
  split <;> omega
theorem rdH_size (s : ByteArray) (h : rdOk s) : (rdH s).size = min (rdU s) 40 := by
  have h2 := h.2.2
  unfold rdSz rdEnd at h2
  unfold rdH rdEnd
  rw [ByteArray.size_extract]
  split at h2 <;> omega
end Go.Proofs.YthgclfhfipfknaaGreat

namespace Go.Proofs.YthgclfhfipfknaaGreat
open Go.ChangeShapes Go.WideShapes Go.ChangeAt Go.RowKit Go.Maps
set_option linter.unusedVariables false

set_option maxRecDepth 20000 in
set_option maxHeartbeats 1000000 in
theorem read_bad (w : World) (s : ByteArray) (hs : s.size ≤ 140737488355328) (h : ¬ rdOk s) :
    Calls Tryz.prog 99 #[.string s] w fun e w' => e = .returned (.tuple #[.agg (stA 0 ⟨#[]⟩ 0), .int .i64 0, .int .i64 8]) ∧ Below w.heap.size w w' := by
  have HV := hide (fun V => Rec.varint_walk s hs V)
  obtain ⟨v1, v2, v3⟩ := vrd_le s
  have hsz : rdA s ≠ 0 → rdU s ≤ 4000 → s.size < rdSz s := fun h1 h2 => by
    refine Nat.lt_of_not_le fun h3 => h ⟨h1, h2, h3⟩
  unfold rdSz rdEnd at hsz
  change Hid (∀ V, Calls Tryz.prog 183 #[.string s] V fun e w' => e = .returned (.tuple #[.int .u64 (rdU s : Int), .int .i64 (rdA s : Int), .int .i64 (if rdA s = 0 then 8 else 0)]) ∧ V = w') at HV
  clear h
  generalize rdA s = a at *
  generalize rdU s = u at *
  by_cases ha : a = 0
  · subst ha
    rw [if_pos rfl] at HV
    clear hsz v1 v2 v3
    go_enter Tryz.func99, Tryz.ntmps99
    go_wp2_with (first
      | (go_at_call 183; (with_reducible refine Calls.mono (HV.out _) ?_); rintro e w4 ⟨rfl, rfl⟩))
    go_returns
    exact ⟨rfl, below_alloc _ _⟩
  · rw [if_neg ha] at HV
    by_cases hu : u ≤ 4000
    · have hsz := hsz ha hu
      have l1 : ¬ (4000 : Int) < (u : Int) := by omega
      have l4 : IntKind.i64.wrap (u : Int) = u := by rw [IntKind.wrap_i64]; omega
      by_cases h40 : 40 < u
      · rw [if_pos h40] at hsz
        have l2 : (40 : Int) < (u : Int) := by omega
        have l3 : min (u : Int) 40 = 40 := by omega
        have l5 : IntKind.i64.wrap ((a : Int) + 40) = (a : Int) + 40 := by rw [IntKind.wrap_i64]; omega
        have l6 : IntKind.i64.wrap ((a : Int) + 40 + 4) = (a : Int) + 40 + 4 := by rw [IntKind.wrap_i64]; omega
        have l7 : (s.size : Int) < (a : Int) + 40 + 4 := by omega
        clear hsz v1 v2 v3 ha hu
        go_enter Tryz.func99, Tryz.ntmps99
        go_wp2_with (first
          | (go_at_call 183; (with_reducible refine Calls.mono (HV.out _) ?_); rintro e w4 ⟨rfl, rfl⟩))
        go_returns
        exact ⟨rfl, below_trans (below_alloc _ _) (below_alloc _ _)⟩
      · rw [if_neg h40] at hsz
        have l2 : ¬ (40 : Int) < (u : Int) := by omega
        have l3 : min (u : Int) 40 = u := by omega
        have l5 : IntKind.i64.wrap ((a : Int) + u) = (a : Int) + u := by rw [IntKind.wrap_i64]; omega
        have l7 : (s.size : Int) < (a : Int) + u := by omega
        clear hsz v1 v2 v3 ha hu
        go_enter Tryz.func99, Tryz.ntmps99
        go_wp2_with (first
          | (go_at_call 183; (with_reducible refine Calls.mono (HV.out _) ?_); rintro e w4 ⟨rfl, rfl⟩))
        go_returns
        exact ⟨rfl, below_trans (below_alloc _ _) (below_alloc _ _)⟩
    · have l1 : (4000 : Int) < (u : Int) := by omega
      clear hsz v1 v2 v3 ha hu
      go_enter Tryz.func99, Tryz.ntmps99
      go_wp2_with (first
        | (go_at_call 183; (with_reducible refine Calls.mono (HV.out _) ?_); rintro e w4 ⟨rfl, rfl⟩))
      go_returns
      exact ⟨rfl, below_alloc _ _⟩
end Go.Proofs.YthgclfhfipfknaaGreat
