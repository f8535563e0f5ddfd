/- What a page tells: its kind, count, link, room; its cells. -/
import Derived.Test.YtenfjbcigkolaaaGreatGK
namespace Go.Proofs.YtenfjbcigkolaaaGreat
open Go.ChangeShapes Go.WideShapes Go.ChangeAt Go.RowKit
set_option linter.unusedVariables false

open Classical in
noncomputable def cntV (l : List UInt8) : Nat := if okB l then byt l 1 else 0
open Classical in
noncomputable def kindV (l : List UInt8) : Nat := if okB l then byt l 0 else 0
open Classical in
noncomputable def linkV (l : List UInt8) : Nat := if okB l then lnk l else 0
open Classical in
noncomputable def roomV (l : List UInt8) : Nat := if okB l then 256 - endN l else 0

set_option maxRecDepth 20000 in
set_option maxHeartbeats 1000000 in
theorem count_walk (l : List UInt8) (hl : l.length = 256) (w : World) :
    Calls Tryz.prog 144 #[.agg (bc l)] w fun e w' => e = .returned (.int .i64 (cntV l : Int)) ∧ Below w.heap.size w w' := by
  have HP := hide (PAt.new w l)
  have HB := hide (new_below w (.cells (bc l) 32) rfl)
  have HL := hide hl
  by_cases ho : okB l
  · have HC := hide (fun V => by have := check_walk l hl V; rw [okE_yes ho] at this; exact this)
    have HV := hide (show cntV l = byt l 1 from if_pos ho)
    have b1 := byt_lt l 1
    have e1 : IntKind.i64.wrap (byt l 1 : Int) = (byt l 1 : Int) := by rw [IntKind.wrap_i64]; omega
    clear b1 hl ho
    go_enter Tryz.func144, Tryz.ntmps144
    go_wp2_with (first
      | (refine wp_loadP HL.out HP.out _ (by rfl) (by rfl) (by rfl) ?_)
      | (go_at_call 182; with_reducible refine Calls.mono (HC.out _) ?_; rintro e w1 ⟨rfl, hb⟩; have c1 := (HP.out.later hb).cell (k := 1) (by rw [HL.out]; omega); have HB1 := hide (below_trans HB.out hb); clear hb))
    go_ret
    exact ⟨by rw [HV.out]; rfl, HB1.out⟩
  · have HC := hide (fun V => by have := check_walk l hl V; rw [okE_no ho] at this; exact this)
    have HV := hide (show cntV l = 0 from if_neg ho)
    clear hl ho
    go_enter Tryz.func144, Tryz.ntmps144
    go_wp2_with (first
      | (refine wp_loadP HL.out HP.out _ (by rfl) (by rfl) (by rfl) ?_)
      | (go_at_call 182; with_reducible refine Calls.mono (HC.out _) ?_; rintro e w1 ⟨rfl, hb⟩; have HB1 := hide (below_trans HB.out hb); clear hb))
    go_ret
    exact ⟨by rw [HV.out]; rfl, HB1.out⟩

set_option maxRecDepth 20000 in
set_option maxHeartbeats 1000000 in
theorem kind_walk (l : List UInt8) (hl : l.length = 256) (w : World) :
    Calls Tryz.prog 143 #[.agg (bc l)] w fun e w' => e = .returned (.int .u8 (kindV l : Int)) ∧ Below w.heap.size w w' := by
  have HP := hide (PAt.new w l)
  have HB := hide (new_below w (.cells (bc l) 32) rfl)
  have HL := hide hl
  by_cases ho : okB l
  · have HC := hide (fun V => by have := check_walk l hl V; rw [okE_yes ho] at this; exact this)
    have HV := hide (show kindV l = byt l 0 from if_pos ho)
    clear hl ho
    go_enter Tryz.func143, Tryz.ntmps143
    go_wp2_with (first
      | (refine wp_loadP HL.out HP.out _ (by rfl) (by rfl) (by rfl) ?_)
      | (go_at_call 182; with_reducible refine Calls.mono (HC.out _) ?_; rintro e w1 ⟨rfl, hb⟩; have c1 := (HP.out.later hb).cell (k := 0) (by rw [HL.out]; omega); have HB1 := hide (below_trans HB.out hb); clear hb))
    go_ret
    exact ⟨by rw [HV.out]; rfl, HB1.out⟩
  · have HC := hide (fun V => by have := check_walk l hl V; rw [okE_no ho] at this; exact this)
    have HV := hide (show kindV l = 0 from if_neg ho)
    clear hl ho
    go_enter Tryz.func143, Tryz.ntmps143
    go_wp2_with (first
      | (refine wp_loadP HL.out HP.out _ (by rfl) (by rfl) (by rfl) ?_)
      | (go_at_call 182; with_reducible refine Calls.mono (HC.out _) ?_; rintro e w1 ⟨rfl, hb⟩; have HB1 := hide (below_trans HB.out hb); clear hb))
    go_ret
    exact ⟨by rw [HV.out]; rfl, HB1.out⟩

set_option maxRecDepth 20000 in
set_option maxHeartbeats 1000000 in
theorem link_walk (l : List UInt8) (hl : l.length = 256) (w : World) :
    Calls Tryz.prog 147 #[.agg (bc l)] w fun e w' => e = .returned (.int .u32 (linkV l : Int)) ∧ Below w.heap.size w w' := by
  have HP := hide (PAt.new w l)
  have HB := hide (new_below w (.cells (bc l) 32) rfl)
  have HL := hide hl
  by_cases ho : okB l
  · have HC := hide (fun V => by have := check_walk l hl V; rw [okE_yes ho] at this; exact this)
    have HK := hide (linkOf_walk l hl)
    have HV := hide (show linkV l = lnk l from if_pos ho)
    clear hl ho
    go_enter Tryz.func147, Tryz.ntmps147
    go_wp2_with (first
      | (refine wp_loadP HL.out HP.out _ (by rfl) (by rfl) (by rfl) ?_)
      | (refine wp_loadP HL.out HP1.out _ (by rfl) (by rfl) (by rfl) ?_)
      | (go_at_call 182; with_reducible refine Calls.mono (HC.out _) ?_; rintro e w1 ⟨rfl, hb⟩; have HP1 := hide (HP.out.later hb); have HB1 := hide (below_trans HB.out hb); clear hb)
      | (go_at_call 184; with_reducible refine Calls.mono (HK.out _) ?_; rintro e w2 ⟨rfl, hb⟩; have HB2 := hide (below_trans HB1.out hb); clear hb))
    go_ret
    exact ⟨by rw [HV.out]; rfl, HB2.out⟩
  · have HC := hide (fun V => by have := check_walk l hl V; rw [okE_no ho] at this; exact this)
    have HV := hide (show linkV l = 0 from if_neg ho)
    clear hl ho
    go_enter Tryz.func147, Tryz.ntmps147
    go_wp2_with (first
      | (refine wp_loadP HL.out HP.out _ (by rfl) (by rfl) (by rfl) ?_)
      | (go_at_call 182; with_reducible refine Calls.mono (HC.out _) ?_; rintro e w1 ⟨rfl, hb⟩; have HB1 := hide (below_trans HB.out hb); clear hb))
    go_ret
    exact ⟨by rw [HV.out]; rfl, HB1.out⟩
end Go.Proofs.YtenfjbcigkolaaaGreat
