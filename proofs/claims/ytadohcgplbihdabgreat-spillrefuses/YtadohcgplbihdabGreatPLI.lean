/- The walk of SpillRefuses. -/
/- The walk of SpillRefuses. -/
import Derived.Test.YtadohcgplbihdabGreatPLG
import Derived.Test.YtadohcgplbihdabGreatPLO
namespace Go.Proofs.YtadohcgplbihdabGreat
open Go.ChangeShapes Go.WideShapes Go.ChangeAt Go.RowKit Go.Maps
set_option linter.unusedVariables false

def abcS : ByteArray := ⟨#[97, 98, 99]⟩
def stubS : ByteArray := ⟨#[3, 97, 98, 99]⟩
def moreS : ByteArray := ⟨#[3, 97, 98, 99, 109, 111, 114, 101]⟩
def cutS : ByteArray := ⟨#[5, 97, 98]⟩
theorem stub_is : (⟨(Rec.putL abcS.size).toArray⟩ ++ abcS : ByteArray) = stubS := ByteArray.ext (by decide)
theorem more_is : (stubS ++ ⟨#[109, 111, 114, 101]⟩ : ByteArray) = moreS := ByteArray.ext (by decide)
theorem abc_is : moreS.extract 1 (3 + 1) = abcS := ByteArray.ext (by decide)
theorem more_u : Rec.vrdU moreS.data.toList = 3 := by decide
theorem more_n : Rec.vrdN moreS.data.toList = 1 := by decide
theorem cut_u : Rec.vrdU cutS.data.toList = 5 := by decide
theorem cut_n : Rec.vrdN cutS.data.toList = 1 := by decide
set_option maxRecDepth 20000 in
set_option maxHeartbeats 2000000 in
theorem pawake_e (w : World) : Calls Tryz.prog 17 #[] w fun e w' => e = .returned (.bool true) ∧ Below w.heap.size w w' := by
  have HO := hide (plopen_l w)
  have HPu := hide (fun V t pm m P K (h : Tr V t pm m P K true) => put_short V t pm m h abcS (by decide))
  rw [stub_is] at HPu
  have HGt := hide (fun V t pm m P K (h : Tr V t pm m P K true) => pget_e V _ moreS abcS (3 + 1 : Nat) none 0 0 0 (find_short V t pm m h moreS 3 (by decide) more_u more_n (by decide) (by decide) abcS abc_is rfl))
  have HGc := hide (fun V t pm m P K (h : Tr V t pm m P K true) => pget_e V _ cutS _ _ none 0 0 8 (find_cut V t pm m h cutS 5 (by decide) cut_u cut_n (by decide)))
  have hcat : ∀ V, (Op.stringOp BinOp.add stubS ⟨#[109, 111, 114, 101]⟩).run Tryz.prog V = .ok (.string moreS) V := fun V => by
    rw [← more_is]
    exact run_string_add_sum V _ _ (by decide)
  unfold stubS moreS at hcat
  unfold abcS stubS at HPu
  unfold moreS abcS at HGt
  unfold cutS at HGc
  go_enter Tryz.func17, Tryz.ntmps17
  go_wp2_with (first
    | (go_at_call 18; (with_reducible refine Calls.mono HO.out ?_); rintro e w1 ⟨t, rfl, pm, h1, h2, h3, h4⟩; have HT1 := hide h1.tr; have HB1 := hide h2; clear h1 h2 h3 h4)
    | (go_at_call 22; (with_reducible refine Calls.mono (HPu.out _ _ _ _ _ _ HT1.out) ?_); rintro e w2 ⟨rfl, hb⟩; have HT2 := hide (HT1.out.later hb); have HB2 := hide (below_trans HB1.out hb); clear hb)
    | (go_at_call 27; (with_reducible refine Calls.mono (HGt.out _ _ _ _ _ _ HT2.out) ?_); rintro e w3 ⟨rfl, hb⟩; have HT3 := hide (HT2.out.later hb); have HB3 := hide (below_trans HB2.out hb); clear hb)
    | (go_at_call 27; (with_reducible refine Calls.mono (HGc.out _ _ _ _ _ _ HT3.out) ?_); rintro e w4 ⟨rfl, hb⟩; have HB4 := hide (below_trans HB3.out hb); clear hb))
  go_ret
  exact ⟨rfl, HB4.out⟩
end Go.Proofs.YtadohcgplbihdabGreat

namespace Go.Proofs.YtadohcgplbihdabGreat
open Go.ChangeShapes Go.WideShapes Go.ChangeAt Go.RowKit Go.Maps
set_option linter.unusedVariables false

theorem two_ge {B l t : Nat} (h1 : B ≤ l) (h2 : B ≤ t) : ∀ k ∈ [l, t], B ≤ k := fun k hk => by simp at hk; omega
set_option maxRecDepth 20000 in
set_option maxHeartbeats 4000000 in
theorem prefuses_walk (w : World) (p s : ByteArray) : Calls Tryz.prog 8 #[.string p, .string s] w fun e w' => e = .returned (.bool true) ∧ Below w.heap.size w w' := by
  have HD := hide (newDisk_e w 4000000 (by decide))
  have HO := hide openJ_e
  have HBg := hide (fun V s j d mb l room (hg : Gr V j d mb l room h0) hS => begin_e V s j d mb l room h0 hg 1 mayB1 hS)
  have HP1 := hide (fun V t j d mb l room (L : List Int) (c n1 : Int) (pm : Option Nat) (sv : Value) (hg : Gr V j d mb l room L) (ht : TxB V t j c n1 pm sv false false) => pput_stop V _ 191 (ChK.reads hg ht) (by decide) (by decide) p)
  have HD1' := hide (fun V t j d mb l room (L : List Int) (c n1 : Int) (pm : Option Nat) (sv : Value) (hg : Gr V j d mb l room L) (ht : TxB V t j c n1 pm sv false false) => drop_stop V _ 191 (ChK.reads hg ht) (by decide) (by decide) s)
  have HRb := hide (fun V t j d mb l room (L : List Int) (c n1 : Int) (pm : Option Nat) (sv : Value) (hg : Gr V j d mb l room L) (ht : TxB V t j c n1 pm sv false false) => rollback_e V t j d mb l room L hg ht)
  have HP2 := hide (fun V t j (c n1 : Int) (pm : Option Nat) (sv : Value) (ht : TxB V t j c n1 pm sv false true) => pput_stop V _ 7 (ChK.stop (GoK.ended ht) (by decide)) (by decide) (by decide) p)
  have HD2 := hide (fun V t j (c n1 : Int) (pm : Option Nat) (sv : Value) (ht : TxB V t j c n1 pm sv false true) => drop_stop V _ 7 (ChK.stop (GoK.ended ht) (by decide)) (by decide) (by decide) s)
  have HG2' := hide (fun V t j (c n1 : Int) (pm : Option Nat) (sv : Value) (ht : TxB V t j c n1 pm sv false true) => pget_e V _ s _ _ _ _ _ 7 (find_stop V _ 7 (GoK.ended ht) (by decide) s))
  have HP3 := hide (fun V => pput_stop V none 1 (ChK.stop GoK.none (by decide)) (by decide) (by decide) p)
  have HD3 := hide (fun V => drop_stop V none 1 (ChK.stop GoK.none (by decide)) (by decide) (by decide) s)
  have HG3' := hide (fun V => pget_e V none s _ _ _ _ _ 1 (find_stop V none 1 GoK.none (by decide) s))
  have HQ3 := hide (fun V => ppages_e V none s _ _ _ _ _ 1 (find_stop V none 1 GoK.none (by decide) s))
  have HAw := hide pawake_e
  have hcat : ∀ V, (Op.stringOp BinOp.add ⟨#[]⟩ ⟨#[]⟩).run Tryz.prog V = .ok (.string ⟨#[]⟩) V := fun V => by
    exact run_string_add_sum V ⟨#[]⟩ ⟨#[]⟩ (by decide)
  go_enter Tryz.func8, Tryz.ntmps8
  go_wp2_with (first
    | (go_at_call 30; (with_reducible refine Calls.mono HD.out ?_); rintro e w1 ⟨rfl, hde, hb⟩; have HD1 := hide hde; have HB1 := hide hb; clear hde hb)
    | (go_at_call 29; (with_reducible refine Calls.mono (HO.out _ _ _ _ HD1.out) ?_); rintro e w2 ⟨s, rfl, j, l, hs, hg, hb, hl⟩; have HS2 := hide hs; have HG2 := hide hg; have HB2 := hide (below_trans HB1.out hb); have HL2 := hide (Nat.le_trans HB1.out.size hl); clear hs hg hb hl)
    | (go_at_call 31; (with_reducible refine Calls.mono (HBg.out _ _ _ _ _ _ _ HG2.out HS2.out) ?_); rintro e w3 ⟨t, rfl, hb⟩; obtain ⟨pm, h1, h2, h3, h4, h5, h6, h7⟩ := hb; have HG3 := hide h1; have HT3 := hide h2; have HB3 := hide (below_only1 HB2.out h5 HL2.out); have HP0 := hide (Nat.le_trans HB2.out.size h6); clear h1 h2 h3 h4 h5 h6 h7)
    | (go_at_call 22; (with_reducible refine Calls.mono (HP1.out _ _ _ _ _ _ _ _ _ _ _ _ HG3.out HT3.out) ?_); rintro e w4 ⟨rfl, hb⟩; have HG4 := hide (HG3.out.later hb); have HT4 := hide (Blk.later HT3.out hb); have HB4 := hide (below_trans HB3.out hb); clear hb HT3)
    | (go_at_call 19; (with_reducible refine Calls.mono (HD1'.out _ _ _ _ _ _ _ _ _ _ _ _ HG4.out HT4.out) ?_); rintro e w5 ⟨rfl, hb⟩; have HG5 := hide (HG4.out.later hb); have HT5 := hide (Blk.later HT4.out hb); have HB5 := hide (below_trans HB4.out hb); clear hb HT4)
    | (go_at_call 32; (with_reducible refine Calls.mono (HRb.out _ _ _ _ _ _ _ _ _ _ _ _ HG5.out HT5.out) ?_); rintro e w6 ⟨rfl, g1, g2, g3⟩; have HT6 := hide g2; have HB6 := hide (below_only HB5.out g3 (two_ge HL2.out HP0.out)); clear g1 g2 g3)
    | (go_at_call 22; (with_reducible refine Calls.mono (HP2.out _ _ _ _ _ _ _ HT6.out) ?_); rintro e w7 ⟨rfl, hb⟩; have HT7 := hide (Blk.later HT6.out hb); have HB7 := hide (below_trans HB6.out hb); clear hb HT6)
    | (go_at_call 27; (with_reducible refine Calls.mono (HG2'.out _ _ _ _ _ _ _ HT7.out) ?_); rintro e w8 ⟨rfl, hb⟩; have HT8 := hide (Blk.later HT7.out hb); have HB8 := hide (below_trans HB7.out hb); clear hb HT7)
    | (go_at_call 22; (with_reducible refine Calls.mono (HP3.out _) ?_); rintro e w9 ⟨rfl, hb⟩; have HT9 := hide (Blk.later HT8.out hb); have HB9 := hide (below_trans HB8.out hb); clear hb)
    | (go_at_call 27; (with_reducible refine Calls.mono (HG3'.out _) ?_); rintro e w10 ⟨rfl, hb⟩; have HT10 := hide (Blk.later HT9.out hb); have HB10 := hide (below_trans HB9.out hb); clear hb)
    | (go_at_call 28; (with_reducible refine Calls.mono (HQ3.out _) ?_); rintro e w11 ⟨rfl, hb⟩; have HT11 := hide (Blk.later HT10.out hb); have HB11 := hide (below_trans HB10.out hb); clear hb)
    | (go_at_call 19; (with_reducible refine Calls.mono (HD3.out _) ?_); rintro e w12 ⟨rfl, hb⟩; have HT12 := hide (Blk.later HT11.out hb); have HB12 := hide (below_trans HB11.out hb); clear hb)
    | (go_at_call 19; (with_reducible refine Calls.mono (HD2.out _ _ _ _ _ _ _ HT12.out) ?_); rintro e w13 ⟨rfl, hb⟩; have HB13 := hide (below_trans HB12.out hb); clear hb)
    | (go_at_call 17; (with_reducible refine Calls.mono (HAw.out _) ?_); rintro e w14 ⟨rfl, hb⟩; have HB14 := hide (below_trans HB13.out hb); clear hb))
  go_ret
  exact ⟨rfl, HB14.out⟩
end Go.Proofs.YtadohcgplbihdabGreat
