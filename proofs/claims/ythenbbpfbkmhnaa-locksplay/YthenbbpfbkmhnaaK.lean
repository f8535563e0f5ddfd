/- What a table must tell: the law's look. -/
import Derived.Test.YthenbbpfbkmhnaaF
import Derived.Test.YthenbbpfbkmhnaaG
namespace Go.Proofs.Ythenbbpfbkmhnaa
open Go.ChangeShapes Go.WideShapes Go.ChangeAt Go.RowKit
set_option linter.unusedVariables false

/-- The world within look: a block of its own holds what must be told. -/
structure Lk (w wr : World) (m : Bool) (L : List Int) : Prop where
  only : Only [] w wr
  p : Blk wr w.heap.size (tcl m L).toArray 29
theorem Lk.start (w : World) (m : Bool) (L : List Int) : Lk w (w.alloc (.cells (tcl m L).toArray 29)) m L := ⟨Only.alloc _ _ _, Blk.new _ _ _⟩
theorem Lk.drew {w wr : World} {m : Bool} {L : List Int} (h : Lk w wr m L) : Lk w wr.drew m L := ⟨h.only.trans (Only.drew _ _), h.p⟩
theorem Lk.later {w wr wr' : World} {m : Bool} {L : List Int} (h : Lk w wr m L) (ho : Only [] wr wr') : Lk w wr' m L := ⟨h.only.trans ho, ho.blk h.p (by simp)⟩

set_option maxHeartbeats 1000000 in
theorem look_nil (w : World) (c l : Int) : Calls Try.prog 12 #[.pointer none, .agg (tcl false h0).toArray, .int .i64 c, .int .i64 l] w fun e w' => e = .returned (.bool true) ∧ Only [] w w' := by
  have H8 := hide h0_length
  go_enter Try.func12, Try.ntmps12
  go_wp2_with fail
  go_loopw [9] (fun iv wr => ∃ j : Nat, j ≤ 8 ∧ iv = .int .i64 (j : Int) ∧ Lk w wr false h0) (fun iv _ => 8 - (intOf iv).toNat)
  case atStart => exact ⟨0, Nat.zero_le _, rfl, Lk.start _ _ _⟩
  case round =>
    obtain ⟨j, hj, rfl, hlk⟩ := hrel
    have HL := hide hlk
    clear hlk
    by_cases hlt : j < 8
    · have l1 : (j : Int) < 8 := by omega
      have l0 : (0 : Int) ≤ (j : Int) := by omega
      have hw1 : IntKind.i64.wrap ((j : Int) + 1) = (j : Int) + 1 := by rw [IntKind.wrap_i64]; omega
      have HS0 := hide (HL.out.drew.p.held' (k := j) (by rw [H8.out]; exact hlt))
      rw [gt_h0] at HS0
      have HHs := hide (has_nil wr.drew (j : Int))
      have b0 : ((0 : Int) != (0 : Int)) = false := by simp
      go_wp2_with fail
      go_region_held3 (fun V => V.cell? ⟨w.heap.size, 1 + j, none⟩ = some (.int .i64 ((0 : Int)))) (first | with_reducible exact HS0.out) (first
        | (go_at_call 13; with_reducible refine Calls.mono HHs.out ?_; rintro e w4 ⟨rfl, rfl⟩))
      all_goals (try go_wp2)
      refine ⟨⟨j + 1, hlt, rfl, HL.out.drew⟩, ?_⟩
      simp only [intOf]; omega
    · obtain rfl : j = 8 := by omega
      have c0 := HL.out.p.made
      have HHo := hide (holders_nil wr l)
      go_wp2_with (first
        | (go_at_call 14; with_reducible refine Calls.mono HHo.out ?_; rintro e w4 ⟨rfl, rfl⟩))
      go_ret
      exact ⟨rfl, HL.out.only⟩
set_option maxHeartbeats 1000000 in
theorem look_bad (w : World) (g : Nat) (L : List Int) (h8 : L.length = 8) (hb : TB w g L) (c l : Int) (hl : okL l = false) : Calls Try.prog 12 #[.pointer (some ⟨g, 0, none⟩), .agg (tcl true L).toArray, .int .i64 c, .int .i64 l] w fun e w' => e = .returned (.bool true) ∧ Only [] w w' := by
  have H8 := hide h8
  have HB := hide hb
  have HLo := hide hl
  clear h8 hb hl
  go_enter Try.func12, Try.ntmps12
  go_wp2_with fail
  go_loopw [9] (fun iv wr => ∃ j : Nat, j ≤ 8 ∧ iv = .int .i64 (j : Int) ∧ Lk w wr true L) (fun iv _ => 8 - (intOf iv).toNat)
  case atStart => exact ⟨0, Nat.zero_le _, rfl, Lk.start _ _ _⟩
  case round =>
    obtain ⟨j, hj, rfl, hlk⟩ := hrel
    have HL := hide hlk
    clear hlk
    by_cases hlt : j < 8
    · have l1 : (j : Int) < 8 := by omega
      have l0 : (0 : Int) ≤ (j : Int) := by omega
      have hw1 : IntKind.i64.wrap ((j : Int) + 1) = (j : Int) + 1 := by rw [IntKind.wrap_i64]; omega
      have HS0 := hide (HL.out.drew.p.held' (k := j) (by rw [H8.out]; exact hlt))
      have HHs := hide (has_in wr.drew g L H8.out (HL.out.drew.only.blk HB.out (by simp)) j hlt)
      have b0 : (gt L j != gt L j) = false := by simp
      go_wp2_with fail
      go_region_held3 (fun V => V.cell? ⟨w.heap.size, 1 + j, none⟩ = some (.int .i64 (gt L j))) (first | with_reducible exact HS0.out) (first
        | (go_at_call 13; with_reducible refine Calls.mono HHs.out ?_; rintro e w4 ⟨rfl, rfl⟩))
      all_goals (try go_wp2)
      refine ⟨⟨j + 1, hlt, rfl, HL.out.drew⟩, ?_⟩
      simp only [intOf]; omega
    · obtain rfl : j = 8 := by omega
      have c0 := HL.out.p.made
      have HHo := hide (holders_bad wr g L (HL.out.only.blk HB.out (by simp)) l HLo.out)
      by_cases a1 : l < 0
      · go_wp2_with (first
          | (go_at_call 14; with_reducible refine Calls.mono HHo.out ?_; rintro e w4 ⟨rfl, rfl⟩))
        go_ret
        exact ⟨rfl, HL.out.only⟩
      · have a2 : 3 < l := by
          have := of_decide_eq_false HLo.out
          omega
        go_wp2_with (first
          | (go_at_call 14; with_reducible refine Calls.mono HHo.out ?_; rintro e w4 ⟨rfl, rfl⟩))
        go_ret
        exact ⟨rfl, HL.out.only⟩
end Go.Proofs.Ythenbbpfbkmhnaa
