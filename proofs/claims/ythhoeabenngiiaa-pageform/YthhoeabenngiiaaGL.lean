/- What a page tells: its kind, count, link, room; its cells. -/
import Derived.Test.YthhoeabenngiiaaGK
namespace Go.Proofs.Ythhoeabenngiiaa
open Go.ChangeShapes Go.WideShapes Go.ChangeAt Go.RowKit
set_option linter.unusedVariables false

open Classical in
noncomputable def cntV (l : List UInt8) : Nat := if okB l then byt l 1 else 0
open Classical in
noncomputable def kindV (l : List UInt8) : Nat := if okB l then byt l 0 else 0
open Classical in
noncomputable def linkV (l : List UInt8) : Nat := if okB l then lnk l else 0
open Classical in
noncomputable def roomV (l : List UInt8) : Nat := if okB l then 256 - endN l else 0

set_option maxHeartbeats 1000000 in
theorem count_walk (l : List UInt8) (hl : l.length = 256) (w : World) :
    Calls Try.prog 12 #[.agg (bc l)] w fun e w' => e = .returned (.int .i64 (cntV l : Int)) ∧ Below w.heap.size w w' := by
  have HP := hide (PAt.new w l)
  have HB := hide (new_below w (.cells (bc l) 23) rfl)
  have HL := hide hl
  by_cases ho : okB l
  · have HC := hide (fun V => by have := check_walk l hl V; rw [okE_yes ho] at this; exact this)
    have HV := hide (show cntV l = byt l 1 from if_pos ho)
    have b1 := byt_lt l 1
    have e1 : IntKind.i64.wrap (byt l 1 : Int) = (byt l 1 : Int) := by rw [IntKind.wrap_i64]; omega
    clear b1 hl ho
    go_enter Try.func12, Try.ntmps12
    go_wp2_with (first
      | (refine wp_loadP HL.out HP.out _ (by rfl) (by rfl) (by rfl) ?_)
      | (go_at_call 10; with_reducible refine Calls.mono (HC.out _) ?_; rintro e w1 ⟨rfl, hb⟩; have c1 := (HP.out.later hb).cell (k := 1) (by rw [HL.out]; omega); have HB1 := hide (below_trans HB.out hb); clear hb))
    go_ret
    exact ⟨by rw [HV.out]; rfl, HB1.out⟩
  · have HC := hide (fun V => by have := check_walk l hl V; rw [okE_no ho] at this; exact this)
    have HV := hide (show cntV l = 0 from if_neg ho)
    clear hl ho
    go_enter Try.func12, Try.ntmps12
    go_wp2_with (first
      | (refine wp_loadP HL.out HP.out _ (by rfl) (by rfl) (by rfl) ?_)
      | (go_at_call 10; with_reducible refine Calls.mono (HC.out _) ?_; rintro e w1 ⟨rfl, hb⟩; have HB1 := hide (below_trans HB.out hb); clear hb))
    go_ret
    exact ⟨by rw [HV.out]; rfl, HB1.out⟩

set_option maxHeartbeats 1000000 in
theorem kind_walk (l : List UInt8) (hl : l.length = 256) (w : World) :
    Calls Try.prog 11 #[.agg (bc l)] w fun e w' => e = .returned (.int .u8 (kindV l : Int)) ∧ Below w.heap.size w w' := by
  have HP := hide (PAt.new w l)
  have HB := hide (new_below w (.cells (bc l) 23) rfl)
  have HL := hide hl
  by_cases ho : okB l
  · have HC := hide (fun V => by have := check_walk l hl V; rw [okE_yes ho] at this; exact this)
    have HV := hide (show kindV l = byt l 0 from if_pos ho)
    clear hl ho
    go_enter Try.func11, Try.ntmps11
    go_wp2_with (first
      | (refine wp_loadP HL.out HP.out _ (by rfl) (by rfl) (by rfl) ?_)
      | (go_at_call 10; with_reducible refine Calls.mono (HC.out _) ?_; rintro e w1 ⟨rfl, hb⟩; have c1 := (HP.out.later hb).cell (k := 0) (by rw [HL.out]; omega); have HB1 := hide (below_trans HB.out hb); clear hb))
    go_ret
    exact ⟨by rw [HV.out]; rfl, HB1.out⟩
  · have HC := hide (fun V => by have := check_walk l hl V; rw [okE_no ho] at this; exact this)
    have HV := hide (show kindV l = 0 from if_neg ho)
    clear hl ho
    go_enter Try.func11, Try.ntmps11
    go_wp2_with (first
      | (refine wp_loadP HL.out HP.out _ (by rfl) (by rfl) (by rfl) ?_)
      | (go_at_call 10; with_reducible refine Calls.mono (HC.out _) ?_; rintro e w1 ⟨rfl, hb⟩; have HB1 := hide (below_trans HB.out hb); clear hb))
    go_ret
    exact ⟨by rw [HV.out]; rfl, HB1.out⟩

set_option maxHeartbeats 1000000 in
theorem link_walk (l : List UInt8) (hl : l.length = 256) (w : World) :
    Calls Try.prog 13 #[.agg (bc l)] w fun e w' => e = .returned (.int .u32 (linkV l : Int)) ∧ Below w.heap.size w w' := by
  have HP := hide (PAt.new w l)
  have HB := hide (new_below w (.cells (bc l) 23) rfl)
  have HL := hide hl
  by_cases ho : okB l
  · have HC := hide (fun V => by have := check_walk l hl V; rw [okE_yes ho] at this; exact this)
    have HK := hide (linkOf_walk l hl)
    have HV := hide (show linkV l = lnk l from if_pos ho)
    clear hl ho
    go_enter Try.func13, Try.ntmps13
    go_wp2_with (first
      | (refine wp_loadP HL.out HP.out _ (by rfl) (by rfl) (by rfl) ?_)
      | (refine wp_loadP HL.out HP1.out _ (by rfl) (by rfl) (by rfl) ?_)
      | (go_at_call 10; with_reducible refine Calls.mono (HC.out _) ?_; rintro e w1 ⟨rfl, hb⟩; have HP1 := hide (HP.out.later hb); have HB1 := hide (below_trans HB.out hb); clear hb)
      | (go_at_call 31; with_reducible refine Calls.mono (HK.out _) ?_; rintro e w2 ⟨rfl, hb⟩; have HB2 := hide (below_trans HB1.out hb); clear hb))
    go_ret
    exact ⟨by rw [HV.out]; rfl, HB2.out⟩
  · have HC := hide (fun V => by have := check_walk l hl V; rw [okE_no ho] at this; exact this)
    have HV := hide (show linkV l = 0 from if_neg ho)
    clear hl ho
    go_enter Try.func13, Try.ntmps13
    go_wp2_with (first
      | (refine wp_loadP HL.out HP.out _ (by rfl) (by rfl) (by rfl) ?_)
      | (go_at_call 10; with_reducible refine Calls.mono (HC.out _) ?_; rintro e w1 ⟨rfl, hb⟩; have HB1 := hide (below_trans HB.out hb); clear hb))
    go_ret
    exact ⟨by rw [HV.out]; rfl, HB1.out⟩

set_option maxHeartbeats 1000000 in
theorem room_walk (l : List UInt8) (hl : l.length = 256) (w : World) :
    Calls Try.prog 14 #[.agg (bc l)] w fun e w' => e = .returned (.int .i64 (roomV l : Int)) ∧ Below w.heap.size w w' := by
  have HP := hide (PAt.new w l)
  have HB := hide (new_below w (.cells (bc l) 23) rfl)
  have HL := hide hl
  by_cases ho : okB l
  · have HC := hide (fun V => by have := check_walk l hl V; rw [okE_yes ho] at this; exact this)
    have hb1 : byt l 1 ≤ 250 := by have := ho.2.1; omega
    have he : endN l ≤ 256 := ho.2.2.2.1
    have HS := hide (start_walk l hl (byt l 1) hb1)
    have HV := hide (show roomV l = 256 - endN l from if_pos ho)
    have e1 : IntKind.i64.wrap (byt l 1 : Int) = (byt l 1 : Int) := by rw [IntKind.wrap_i64]; omega
    have e2 : IntKind.i64.wrap (256 - (6 + (byt l 1 : Int) + (sm l (byt l 1) : Int))) = ((256 - endN l : Nat) : Int) := by unfold endN at *; rw [IntKind.wrap_i64]; omega
    clear hl ho hb1 he
    go_enter Try.func14, Try.ntmps14
    go_wp2_with (first
      | (refine wp_loadP HL.out HP.out _ (by rfl) (by rfl) (by rfl) ?_)
      | (refine wp_loadP HL.out HP1.out _ (by rfl) (by rfl) (by rfl) ?_)
      | (go_at_call 10; with_reducible refine Calls.mono (HC.out _) ?_; rintro e w1 ⟨rfl, hb⟩; have HP1 := hide (HP.out.later hb); have c1 := HP1.out.cell (k := 1) (by rw [HL.out]; omega); have HB1 := hide (below_trans HB.out hb); clear hb)
      | (go_at_call 30; with_reducible refine Calls.mono (HS.out _) ?_; rintro e w2 ⟨rfl, hb⟩; have HB2 := hide (below_trans HB1.out hb); clear hb))
    go_ret
    exact ⟨by rw [HV.out]; rfl, HB2.out⟩
  · have HC := hide (fun V => by have := check_walk l hl V; rw [okE_no ho] at this; exact this)
    have HV := hide (show roomV l = 0 from if_neg ho)
    clear hl ho
    go_enter Try.func14, Try.ntmps14
    go_wp2_with (first
      | (refine wp_loadP HL.out HP.out _ (by rfl) (by rfl) (by rfl) ?_)
      | (go_at_call 10; with_reducible refine Calls.mono (HC.out _) ?_; rintro e w1 ⟨rfl, hb⟩; have HB1 := hide (below_trans HB.out hb); clear hb))
    go_ret
    exact ⟨by rw [HV.out]; rfl, HB1.out⟩

open Classical in
/-- What is wrong with a place. -/
noncomputable def plE (l : List UInt8) (i last : Int) : Int := if okB l then (if i < 0 ∨ last < i then 4 else 0) else 8
set_option maxHeartbeats 1000000 in
theorem place_walk (l : List UInt8) (hl : l.length = 256) (i last : Int) (w : World) :
    Calls Try.prog 32 #[.agg (bc l), .int .i64 i, .int .i64 last] w fun e w' => e = .returned (.int .i64 (plE l i last)) ∧ Below w.heap.size w w' := by
  have HP := hide (PAt.new w l)
  have HB := hide (new_below w (.cells (bc l) 23) rfl)
  have HL := hide hl
  by_cases ho : okB l
  · have HC := hide (fun V => by have := check_walk l hl V; rw [okE_yes ho] at this; exact this)
    by_cases h0 : i < 0
    · have HV := hide (show plE l i last = 4 by unfold plE; rw [if_pos ho, if_pos (.inl h0)])
      clear hl ho
      go_enter Try.func32, Try.ntmps32
      go_wp2_with (first
        | (refine wp_loadP HL.out HP.out _ (by rfl) (by rfl) (by rfl) ?_)
        | (go_at_call 10; with_reducible refine Calls.mono (HC.out _) ?_; rintro e w1 ⟨rfl, hb⟩; have HB1 := hide (below_trans HB.out hb); clear hb))
      go_ret
      exact ⟨by rw [HV.out]; rfl, HB1.out⟩
    · by_cases h1 : last < i
      · have HV := hide (show plE l i last = 4 by unfold plE; rw [if_pos ho, if_pos (.inr h1)])
        clear hl ho
        go_enter Try.func32, Try.ntmps32
        go_wp2_with (first
          | (refine wp_loadP HL.out HP.out _ (by rfl) (by rfl) (by rfl) ?_)
          | (go_at_call 10; with_reducible refine Calls.mono (HC.out _) ?_; rintro e w1 ⟨rfl, hb⟩; have HB1 := hide (below_trans HB.out hb); clear hb))
        go_ret
        exact ⟨by rw [HV.out]; rfl, HB1.out⟩
      · have HV := hide (show plE l i last = 0 by unfold plE; rw [if_pos ho, if_neg (by omega)])
        clear hl ho
        go_enter Try.func32, Try.ntmps32
        go_wp2_with (first
          | (refine wp_loadP HL.out HP.out _ (by rfl) (by rfl) (by rfl) ?_)
          | (go_at_call 10; with_reducible refine Calls.mono (HC.out _) ?_; rintro e w1 ⟨rfl, hb⟩; have HB1 := hide (below_trans HB.out hb); clear hb))
        go_ret
        exact ⟨by rw [HV.out]; rfl, HB1.out⟩
  · have HC := hide (fun V => by have := check_walk l hl V; rw [okE_no ho] at this; exact this)
    have HV := hide (show plE l i last = 8 from if_neg ho)
    clear hl ho
    go_enter Try.func32, Try.ntmps32
    go_wp2_with (first
      | (refine wp_loadP HL.out HP.out _ (by rfl) (by rfl) (by rfl) ?_)
      | (go_at_call 10; with_reducible refine Calls.mono (HC.out _) ?_; rintro e w1 ⟨rfl, hb⟩; have HB1 := hide (below_trans HB.out hb); clear hb))
    go_ret
    exact ⟨by rw [HV.out]; rfl, HB1.out⟩
end Go.Proofs.Ythhoeabenngiiaa
