/- Whether a lock can be taken beside what the others hold: the program's switch. -/
import Derived.Test.YtadohcgplbihdabGreatLKB
namespace Go.Proofs.YtadohcgplbihdabGreat
open Go.ChangeShapes Go.WideShapes Go.ChangeAt Go.RowKit
set_option linter.unusedVariables false

/-- Can it be taken? -/
def frB (h : List Int) (c l : Int) : Bool := !((l == 3 && anoB h c 1) || ((l == 3 || l == 2) && anoB h c 2) || ((l == 3 || l == 2 || l == 1) && anoB h c 3))
set_option maxRecDepth 20000 in
set_option maxHeartbeats 1000000 in
theorem free_any (w : World) (g : Nat) (h : List Int) (h8 : h.length = 8) (hb : TB w g h) (c l : Int) :
    Calls Tryz.prog 279 #[.pointer (some ⟨g, 0, none⟩), .int .i64 c, .int .i64 l] w fun e w' => e = .returned (.bool (frB h c l)) ∧ Only [] w w' := by
  obtain ⟨W, hW⟩ : ∃ W, W = (w.alloc (.cells #[.pointer (some ⟨g, 0, none⟩)] 135)).alloc (.cells #[.int .i64 c] 3) := ⟨_, rfl⟩
  have HO : Hid (Only [] w W) := by rw [hW]; exact (Only.alloc _ _ _).trans (Only.alloc _ _ _)
  have HB : Hid (TB W g h) := HO.out.blk hb (by simp)
  have HA : Hid (W.cell? ⟨w.heap.size, 0, none⟩ = some (.pointer (some ⟨g, 0, none⟩))) := by
    have h1 := Blk.new w #[.pointer (some ⟨g, 0, none⟩)] 135
    have h2 : Blk W w.heap.size #[.pointer (some ⟨g, 0, none⟩)] 135 := by rw [hW]; exact (Only.alloc _ _ []).blk h1 (by simp)
    exact (h2.cell 0).trans rfl
  have HC : Hid (W.cell? ⟨w.heap.size + 1, 0, none⟩ = some (.int .i64 c)) := by
    have h1 := Blk.new (w.alloc (.cells #[.pointer (some ⟨g, 0, none⟩)] 135)) #[.int .i64 c] 3
    have h2 : Blk W (w.heap.size + 1) #[.int .i64 c] 3 := by rw [hW]; simpa using h1
    exact (h2.cell 0).trans rfl
  have HK := hide (fun x => another_any W g h h8 HB.out w.heap.size (w.heap.size + 1) c x HA.out HC.out)
  have HF : Hid (frB h c l = !((l == 3 && anoB h c 1) || ((l == 3 || l == 2) && anoB h c 2) || ((l == 3 || l == 2 || l == 1) && anoB h c 3))) := rfl
  clear hb h8 HB HA HC
  subst hW
  by_cases l3 : l = 3
  · subst l3
    cases a1 : anoB h c 1 with
    | true =>
      go_enter Tryz.func279, Tryz.ntmps279
      go_wp2_with (go_at_call 283; with_reducible refine Calls.mono (HK.out _) ?_; rintro e w4 ⟨rfl, rfl⟩)
      go_ret
      exact ⟨by rw [HF.out, a1]; rfl, HO.out⟩
    | false =>
    cases a2 : anoB h c 2 with
    | true =>
      go_enter Tryz.func279, Tryz.ntmps279
      go_wp2_with (go_at_call 283; with_reducible refine Calls.mono (HK.out _) ?_; rintro e w4 ⟨rfl, rfl⟩)
      go_ret
      exact ⟨by rw [HF.out, a1, a2]; rfl, HO.out⟩
    | false =>
    cases a3 : anoB h c 3
    all_goals
      go_enter Tryz.func279, Tryz.ntmps279
      go_wp2_with (go_at_call 283; with_reducible refine Calls.mono (HK.out _) ?_; rintro e w4 ⟨rfl, rfl⟩)
      go_ret
      exact ⟨by rw [HF.out, a1, a2, a3]; rfl, HO.out⟩
  have e3 : (l == 3) = false := by simpa using l3
  by_cases l2 : l = 2
  · subst l2
    clear l3
    cases a2 : anoB h c 2 with
    | true =>
      go_enter Tryz.func279, Tryz.ntmps279
      go_wp2_with (go_at_call 283; with_reducible refine Calls.mono (HK.out _) ?_; rintro e w4 ⟨rfl, rfl⟩)
      go_ret
      exact ⟨by rw [HF.out, a2]; rfl, HO.out⟩
    | false =>
    cases a3 : anoB h c 3
    all_goals
      go_enter Tryz.func279, Tryz.ntmps279
      go_wp2_with (go_at_call 283; with_reducible refine Calls.mono (HK.out _) ?_; rintro e w4 ⟨rfl, rfl⟩)
      go_ret
      exact ⟨by rw [HF.out, a2, a3]; rfl, HO.out⟩
  have e2 : (l == 2) = false := by simpa using l2
  by_cases l1 : l = 1
  · subst l1
    clear l3 l2
    cases a3 : anoB h c 3
    all_goals
      go_enter Tryz.func279, Tryz.ntmps279
      go_wp2_with (go_at_call 283; with_reducible refine Calls.mono (HK.out _) ?_; rintro e w4 ⟨rfl, rfl⟩)
      go_ret
      exact ⟨by rw [HF.out, a3]; rfl, HO.out⟩
  have e1 : (l == 1) = false := by simpa using l1
  clear HK
  go_enter Tryz.func279, Tryz.ntmps279
  go_wp2
  go_ret
  exact ⟨by rw [HF.out, e1, e2, e3]; rfl, HO.out⟩
end Go.Proofs.YtadohcgplbihdabGreat
