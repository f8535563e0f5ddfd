/- What a page tells: its kind, count, link, room; its cells. -/
/- Plain: a page as its head, lengths, bytes. -/
import Derived.Test.YthgclfhfipfknaaGreatGK
namespace Go.Proofs.YthgclfhfipfknaaGreat
open Go.ChangeShapes Go.WideShapes Go.ChangeAt Go.RowKit
set_option linter.unusedVariables false

open Classical in
noncomputable def cntV (l : List UInt8) : Nat := if okB l then byt l 1 else 0
open Classical in
noncomputable def kindV (l : List UInt8) : Nat := if okB l then byt l 0 else 0
open Classical in
noncomputable def linkV (l : List UInt8) : Nat := if okB l then lnk l else 0
open Classical in
noncomputable def roomV (l : List UInt8) : Nat := if okB l then 256 - endN l else 0

set_option maxRecDepth 20000 in
set_option maxHeartbeats 1000000 in
theorem count_walk (l : List UInt8) (hl : l.length = 256) (w : World) :
    Calls Tryz.prog 104 #[.agg (bc l)] w fun e w' => e = .returned (.int .i64 (cntV l : Int)) ∧ Below w.heap.size w w' := by
  have HP := hide (PAt.new w l)
  have HB := hide (new_below w (.cells (bc l) 59) rfl)
  have HL := hide hl
  by_cases ho : okB l
  · have HC := hide (fun V => by have := check_walk l hl V; rw [okE_yes ho] at this; exact this)
    have HV := hide (show cntV l = byt l 1 from if_pos ho)
    have b1 := byt_lt l 1
    have e1 : IntKind.i64.wrap (byt l 1 : Int) = (byt l 1 : Int) := by rw [IntKind.wrap_i64]; omega
    clear b1 hl ho
    go_enter Tryz.func104, Tryz.ntmps104
    go_wp2_with (first
      | (refine wp_loadP HL.out HP.out _ (by rfl) (by rfl) (by rfl) ?_)
      | (go_at_call 187; with_reducible refine Calls.mono (HC.out _) ?_; rintro e w1 ⟨rfl, hb⟩; have c1 := (HP.out.later hb).cell (k := 1) (by rw [HL.out]; omega); have HB1 := hide (below_trans HB.out hb); clear hb))
    go_ret
    exact ⟨by rw [HV.out]; rfl, HB1.out⟩
  · have HC := hide (fun V => by have := check_walk l hl V; rw [okE_no ho] at this; exact this)
    have HV := hide (show cntV l = 0 from if_neg ho)
    clear hl ho
    go_enter Tryz.func104, Tryz.ntmps104
    go_wp2_with (first
      | (refine wp_loadP HL.out HP.out _ (by rfl) (by rfl) (by rfl) ?_)
      | (go_at_call 187; with_reducible refine Calls.mono (HC.out _) ?_; rintro e w1 ⟨rfl, hb⟩; have HB1 := hide (below_trans HB.out hb); clear hb))
    go_ret
    exact ⟨by rw [HV.out]; rfl, HB1.out⟩

set_option maxRecDepth 20000 in
set_option maxHeartbeats 1000000 in
theorem kind_walk (l : List UInt8) (hl : l.length = 256) (w : World) :
    Calls Tryz.prog 103 #[.agg (bc l)] w fun e w' => e = .returned (.int .u8 (kindV l : Int)) ∧ Below w.heap.size w w' := by
  have HP := hide (PAt.new w l)
  have HB := hide (new_below w (.cells (bc l) 59) rfl)
  have HL := hide hl
  by_cases ho : okB l
  · have HC := hide (fun V => by have := check_walk l hl V; rw [okE_yes ho] at this; exact this)
    have HV := hide (show kindV l = byt l 0 from if_pos ho)
    clear hl ho
    go_enter Tryz.func103, Tryz.ntmps103
    go_wp2_with (first
      | (refine wp_loadP HL.out HP.out _ (by rfl) (by rfl) (by rfl) ?_)
      | (go_at_call 187; with_reducible refine Calls.mono (HC.out _) ?_; rintro e w1 ⟨rfl, hb⟩; have c1 := (HP.out.later hb).cell (k := 0) (by rw [HL.out]; omega); have HB1 := hide (below_trans HB.out hb); clear hb))
    go_ret
    exact ⟨by rw [HV.out]; rfl, HB1.out⟩
  · have HC := hide (fun V => by have := check_walk l hl V; rw [okE_no ho] at this; exact this)
    have HV := hide (show kindV l = 0 from if_neg ho)
    clear hl ho
    go_enter Tryz.func103, Tryz.ntmps103
    go_wp2_with (first
      | (refine wp_loadP HL.out HP.out _ (by rfl) (by rfl) (by rfl) ?_)
      | (go_at_call 187; with_reducible refine Calls.mono (HC.out _) ?_; rintro e w1 ⟨rfl, hb⟩; have HB1 := hide (below_trans HB.out hb); clear hb))
    go_ret
    exact ⟨by rw [HV.out]; rfl, HB1.out⟩

set_option maxRecDepth 20000 in
set_option maxHeartbeats 1000000 in
theorem link_walk (l : List UInt8) (hl : l.length = 256) (w : World) :
    Calls Tryz.prog 107 #[.agg (bc l)] w fun e w' => e = .returned (.int .u32 (linkV l : Int)) ∧ Below w.heap.size w w' := by
  have HP := hide (PAt.new w l)
  have HB := hide (new_below w (.cells (bc l) 59) rfl)
  have HL := hide hl
  by_cases ho : okB l
  · have HC := hide (fun V => by have := check_walk l hl V; rw [okE_yes ho] at this; exact this)
    have HK := hide (linkOf_walk l hl)
    have HV := hide (show linkV l = lnk l from if_pos ho)
    clear hl ho
    go_enter Tryz.func107, Tryz.ntmps107
    go_wp2_with (first
      | (refine wp_loadP HL.out HP.out _ (by rfl) (by rfl) (by rfl) ?_)
      | (refine wp_loadP HL.out HP1.out _ (by rfl) (by rfl) (by rfl) ?_)
      | (go_at_call 187; with_reducible refine Calls.mono (HC.out _) ?_; rintro e w1 ⟨rfl, hb⟩; have HP1 := hide (HP.out.later hb); have HB1 := hide (below_trans HB.out hb); clear hb)
      | (go_at_call 189; with_reducible refine Calls.mono (HK.out _) ?_; rintro e w2 ⟨rfl, hb⟩; have HB2 := hide (below_trans HB1.out hb); clear hb))
    go_ret
    exact ⟨by rw [HV.out]; rfl, HB2.out⟩
  · have HC := hide (fun V => by have := check_walk l hl V; rw [okE_no ho] at this; exact this)
    have HV := hide (show linkV l = 0 from if_neg ho)
    clear hl ho
    go_enter Tryz.func107, Tryz.ntmps107
    go_wp2_with (first
      | (refine wp_loadP HL.out HP.out _ (by rfl) (by rfl) (by rfl) ?_)
      | (go_at_call 187; with_reducible refine Calls.mono (HC.out _) ?_; rintro e w1 ⟨rfl, hb⟩; have HB1 := hide (below_trans HB.out hb); clear hb))
    go_ret
    exact ⟨by rw [HV.out]; rfl, HB1.out⟩
end Go.Proofs.YthgclfhfipfknaaGreat

namespace Go.Proofs.YthgclfhfipfknaaGreat
open Go.ChangeShapes Go.WideShapes Go.ChangeAt Go.RowKit
set_option linter.unusedVariables false

/-- A page while it is laid byte by byte. -/
def hd6 (k n L : Nat) : List UInt8 := [UInt8.ofNat k, UInt8.ofNat n, UInt8.ofNat (L / 16777216), UInt8.ofNat (L / 65536), UInt8.ofNat (L / 256), UInt8.ofNat L]
def layH (H : List UInt8) (S : Nat → ByteArray) (n i : Nat) : List UInt8 := H ++ (cat (fun i => lenS (S i)) i ++ (zeros (n - i) ++ (cat S i ++ zeros (250 - n - (cat S i).length))))
def layI (H : List UInt8) (S : Nat → ByteArray) (n i k : Nat) : List UInt8 := H ++ (cat (fun i => lenS (S i)) (i + 1) ++ (zeros (n - (i + 1)) ++ ((cat S i ++ (S i).data.toList.take k) ++ zeros (250 - n - ((cat S i).length + k)))))
theorem pageL_eq (k L n : Nat) (S : Nat → ByteArray) : pageL k L n S = layH (hd6 k n L) S n n := by
  unfold pageL lay layH setL hd6
  rw [cat_lenS]
  simp
end Go.Proofs.YthgclfhfipfknaaGreat
