/- Package spill: a stub without a chain is read. -/
/- Package spill: what is found of a stub that is cut short. -/
import Derived.Test.YthgclfhfipfknaaGreatPLC
import Derived.Test.YthgclfhfipfknaaGreatBA
namespace Go.Proofs.YthgclfhfipfknaaGreat
open Go.ChangeShapes Go.WideShapes Go.ChangeAt Go.RowKit Go.Maps
set_option linter.unusedVariables false

set_option maxRecDepth 20000 in
set_option maxHeartbeats 1000000 in
theorem read_short (w : World) (s : ByteArray) (n : Nat) (hn : n ≤ 40) (hu : Rec.vrdU s.data.toList = n) (hN : Rec.vrdN s.data.toList = 1) (hsz : n + 1 ≤ s.size) (hs : s.size ≤ 140737488355328) :
    Calls Tryz.prog 99 #[.string s] w fun e w' => e = .returned (.tuple #[.agg (stA n (s.extract 1 (n + 1)) 0), .int .i64 (n + 1 : Nat), .int .i64 0]) ∧ Below w.heap.size w w' := by
  have HV := hide (fun V => Rec.varint_walk s hs V)
  rw [hu, hN] at HV
  have l1 : ¬ (4000 : Int) < (n : Int) := by omega
  have l2 : ¬ (40 : Int) < (n : Int) := by omega
  have l3 : min (n : Int) 40 = n := by omega
  have l4 : IntKind.i64.wrap (n : Int) = n := by rw [IntKind.wrap_i64]; omega
  have l5 : IntKind.i64.wrap (1 + (n : Int)) = (n + 1 : Nat) := by rw [IntKind.wrap_i64]; omega
  have l6 : ¬ (s.size : Int) < (n + 1 : Nat) := by omega
  clear hu hN
  go_enter Tryz.func99, Tryz.ntmps99
  go_wp2_with (first
    | (go_at_call 183; (with_reducible refine Calls.mono (HV.out _) ?_); rintro e w4 ⟨rfl, rfl⟩))
  go_loopw [11] (fun v wr => v = .int .i64 ((n : Int) + 1) ∧ wr = ((w.alloc (.cells #[.int .i64 0, .string ⟨#[]⟩, .int .i64 0] 90)).alloc (.cells #[.int .i64 n, .string (s.extract 1 (n + 1)), .int .i64 0] 90))) (fun _ _ => 0)
  case atStart => exact ⟨rfl, rfl⟩
  case round =>
    obtain ⟨rfl, rfl⟩ := hrel
    go_wp2
    go_returns
    exact ⟨rfl, below_trans (below_alloc _ _) (below_alloc _ _)⟩
set_option maxRecDepth 20000 in
set_option maxHeartbeats 1000000 in
theorem read_cut (w : World) (s : ByteArray) (n : Nat) (hn : n ≤ 40) (hu : Rec.vrdU s.data.toList = n) (hN : Rec.vrdN s.data.toList = 1) (hsz : s.size < n + 1) :
    Calls Tryz.prog 99 #[.string s] w fun e w' => e = .returned (.tuple #[.agg (stA 0 ⟨#[]⟩ 0), .int .i64 0, .int .i64 8]) ∧ Below w.heap.size w w' := by
  have HV := hide (fun V => Rec.varint_walk s (by omega) V)
  rw [hu, hN] at HV
  have l1 : ¬ (4000 : Int) < (n : Int) := by omega
  have l2 : ¬ (40 : Int) < (n : Int) := by omega
  have l3 : min (n : Int) 40 = n := by omega
  have l4 : IntKind.i64.wrap (n : Int) = n := by rw [IntKind.wrap_i64]; omega
  have l6 : (s.size : Int) < (n : Int) + 1 := by omega
  clear hu hN
  go_enter Tryz.func99, Tryz.ntmps99
  go_wp2_with (first
    | (go_at_call 183; (with_reducible refine Calls.mono (HV.out _) ?_); rintro e w4 ⟨rfl, rfl⟩))
  go_returns
  exact ⟨rfl, below_trans (below_alloc _ _) (below_alloc _ _)⟩
end Go.Proofs.YthgclfhfipfknaaGreat

namespace Go.Proofs.YthgclfhfipfknaaGreat
variable {sv : Value}
open Go.ChangeShapes Go.WideShapes Go.ChangeAt Go.RowKit Go.Maps
set_option linter.unusedVariables false

theorem behind_e (w : World) (n : Nat) (s : ByteArray) (f : Int) (h1 : s.size ≤ n) (h2 : n ≤ 4000) : Calls Tryz.prog 101 #[.agg (stA n s f)] w fun e w' => e = .returned (.int .i64 ((n : Int) - s.size)) ∧ Below w.heap.size w w' := by
  have l1 : IntKind.i64.wrap ((n : Int) - s.size) = (n : Int) - s.size := by rw [IntKind.wrap_i64]; omega
  unfold stA
  go_enter Tryz.func101, Tryz.ntmps101
  go_wp2
  go_ret
  exact ⟨rfl, below_alloc _ _⟩
theorem Tr.mayR {w : World} {t pm n : Nat} {P : Nat → List UInt8} {K : Nat} {wr : Bool} (h : Tr sv w t pm n P K wr) : PgK w (some ⟨t, 0, none⟩) 0 zs 4 := .out h (.inl (by omega))
set_option maxRecDepth 20000 in
set_option maxHeartbeats 1000000 in
theorem find_cut (w : World) (t pm m : Nat) {P : Nat → List UInt8} {K : Nat} {wr : Bool} (h : Tr sv w t pm m P K wr) (s : ByteArray) (n : Nat) (hn : n ≤ 40) (hu : Rec.vrdU s.data.toList = n) (hN : Rec.vrdN s.data.toList = 1) (hsz : s.size < n + 1) :
    Calls Tryz.prog 37 #[.pointer (some ⟨t, 0, none⟩), .string s] w fun e w' => e = .returned (.tuple #[.agg (kpA ⟨#[]⟩ 0 none 0 0), .int .i64 8]) ∧ Below w.heap.size w w' := by
  have HM := hide (fun X (hb : Below w.heap.size w X) => pmayRead_e X _ zs zs_length 4 (h.later hb).mayR)
  have HR := hide (fun X => read_cut X s n hn hu hN hsz)
  have HI0 := hide (sizeK ⟨#[]⟩ 0 none 0 0)
  have HJ0 := hide (sizeS 0 ⟨#[]⟩ 0)
  have HK0 := hide (kp_new w)
  have HB0 := hide (below_alloc w (.cells #[.string ⟨#[]⟩, .int .i64 0, .slice none 0 0] 79))
  clear h hu hN hsz hn
  go_enter Tryz.func37, Tryz.ntmps37
  go_wp2
  go_step3
  go_wp2_with (first
    | (go_at_call 98; (with_reducible refine Calls.mono (HM.out _ HB0.out) ?_); rintro e w4 ⟨rfl, hb⟩; rw [show unN 4 = 0 by rfl]; have HB4 := hide (below_trans HB0.out hb); have HK4 := hide (Blk.later HK0.out hb); clear hb)
    | (go_at_call 99; (with_reducible refine Calls.mono (HR.out _) ?_); rintro e w5 ⟨rfl, hb⟩; have HB5 := hide (below_trans (below_trans HB4.out hb) (below_alloc w5 (.cells #[.int .i64 0, .string ⟨#[]⟩, .int .i64 0] 90))); have HK5 := hide (Blk.later (Blk.later HK4.out hb) (below_alloc w5 (.cells #[.int .i64 0, .string ⟨#[]⟩, .int .i64 0] 90))); have HS5 := hide (st_new w5); have HZ5 := hide (show w.heap.size < w5.heap.size from Nat.lt_of_lt_of_le (Blk.later HK4.out hb).lt (Nat.le_refl _)); clear hb)
    | ((with_reducible refine atSt 90 ?_); refine wp_storeB (c := stA 0 ⟨#[]⟩ 0) HJ0.out rfl (st_one _ _ _) HS5.out _ _ (by rfl) (by rfl) (by rfl) (by rfl) ?_; intro W6 hb6 ho6; have HK6 := hide (Blk.only HK5.out ho6 (by have := HZ5.out; simp; omega)); have HB6 := hide (below_only1 HB5.out ho6 (Nat.le_of_lt HZ5.out)); clear hb6 ho6)
    | ((with_reducible refine atSt 79 ?_); refine wp_storeB (c := kpA ⟨#[]⟩ 0 none 0 0) HI0.out rfl (kp_one _ _ _ _ _) HK6.out _ _ (by rfl) (by rfl) (by rfl) (by rfl) ?_; intro W7 hb7 ho7; have HK7 := hide hb7; have HB7 := hide (below_only1 HB6.out ho7 (Nat.le_refl _)); clear hb7 ho7))
  rw [Exit.noGoto_ret]
  refine ret_blk2 (c := kpA ⟨#[]⟩ 0 none 0 0) HI0.out uK Tryz.results37 (by rfl) (by rfl) HK7.out ?_
  exact ⟨rfl, HB7.out⟩
end Go.Proofs.YthgclfhfipfknaaGreat
