/- The walk of SpaceRefuses. -/
import Derived.Test.YtadohcgplbihdaaGreatSL
namespace Go.Proofs.YtadohcgplbihdaaGreat
open Go.ChangeShapes Go.WideShapes Go.ChangeAt Go.RowKit Go.Maps
set_option linter.unusedVariables false

theorem ld_of {w : World} {t pm : Nat} {P : Nat → List UInt8} {K : Nat} (h : Tr w t pm 1 (upP P 1 (firstL 0 zN)) K true) : Ld w t pm 1 (upP P 1 (firstL 0 zN)) K 0 zN := ⟨h, Nat.le_refl _, rfl, by omega, fun i => by unfold zN; omega⟩
theorem ld_of2 {w : World} {t pm : Nat} {P : Nat → List UInt8} {K : Nat} (h : Tr w t pm 2 (upP (upP P 1 (firstL 0 zN)) 2 (freeL 0)) K true) : Ld w t pm 2 (upP (upP P 1 (firstL 0 zN)) 2 (freeL 0)) K 0 zN := ⟨h, by omega, rfl, by omega, fun i => by unfold zN; omega⟩
theorem below_tx {w w1 w2 : World} {t pm : Nat} (h : Below w.heap.size w w1) (ho : Only [t, pm] w1 w2) (ht : w.heap.size ≤ t) (hp : w.heap.size ≤ pm) : Below w.heap.size w w2 := below_only h ho (fun k hk => by simp at hk; omega)
set_option maxRecDepth 20000 in
set_option maxHeartbeats 2000000 in
theorem awake_e (w : World) : Calls Tryz.prog 36 #[] w fun e w' => e = .returned (.bool true) ∧ Below w.heap.size w w' := by
  have HO := hide (lopen_e w)
  have HLd := hide (fun V t pm (h : Tr V t pm 0 zPg 0 true) => laid_e V _ _ _ (FoK.none h))
  have HLy := hide (fun V t pm (h : Tr V t pm 0 zPg 0 true) => lay_ok V t pm h (by omega))
  have HLb := hide (fun V t pm (h : Tr V t pm 1 (upP zPg 1 (firstL 0 zN)) 1 true) => lay_busy V t pm 1 h (Nat.le_refl _))
  have HTk := hide (fun V t pm (h : Tr V t pm 1 (upP zPg 1 (firstL 0 zN)) 1 true) => take_more V t pm 1 (ld_of h) (by omega) (by omega))
  have HGv := hide (fun V t pm (h : Tr V t pm 2 (upP (upP zPg 1 (firstL 0 zN)) 2 (freeL 0)) 2 true) => give_arg V t pm 2 (ld_of2 h) 1 (by decide))
  have HGt := hide (fun V t pm (h : Tr V t pm 2 (upP (upP zPg 1 (firstL 0 zN)) 2 (freeL 0)) 2 true) => get_arg V t pm 2 (ld_of2 h) 8 (by decide))
  go_enter Tryz.func36, Tryz.ntmps36
  go_wp2_with (first
    | (go_at_call 37; (with_reducible refine Calls.mono HO.out ?_); rintro e w1 ⟨t, rfl, pm, h1, h2, h3, h4⟩; have HT1 := hide h1; have HB1 := hide h2; have HP1 := hide (And.intro h3 h4); clear h1 h2 h3 h4)
    | (go_at_call 90; (with_reducible refine Calls.mono (HLd.out _ _ _ HT1.out) ?_); rintro e w2 ⟨rfl, hb⟩; have HT2 := hide (HT1.out.later hb); have HB2 := hide (below_trans HB1.out hb); clear hb)
    | (go_at_call 38; (with_reducible refine Calls.mono (HLy.out _ _ _ HT2.out) ?_); rintro e w3 ⟨rfl, g1, g2⟩; have HT3 := hide g1; have HB3 := hide (below_tx HB2.out g2 HP1.out.1 HP1.out.2); clear g1 g2 HT2)
    | (go_at_call 38; (with_reducible refine Calls.mono (HLb.out _ _ _ HT3.out) ?_); rintro e w4 ⟨rfl, hb⟩; have HT4 := hide (HT3.out.later hb); have HB4 := hide (below_trans HB3.out hb); clear hb)
    | (go_at_call 41; (with_reducible refine Calls.mono (HTk.out _ _ _ HT4.out) ?_); rintro e w5 ⟨rfl, g1, g2⟩; have HT5 := hide g1; have HB5 := hide (below_tx HB4.out g2 HP1.out.1 HP1.out.2); clear g1 g2)
    | (go_at_call 44; (with_reducible refine Calls.mono (HGv.out _ _ _ HT5.out) ?_); rintro e w6 ⟨rfl, hb⟩; have HT6 := hide (HT5.out.later hb); have HB6 := hide (below_trans HB5.out hb); clear hb)
    | (go_at_call 39; (with_reducible refine Calls.mono (HGt.out _ _ _ HT6.out) ?_); rintro e w7 ⟨rfl, hb⟩; have HB7 := hide (below_trans HB6.out hb); clear hb))
  go_ret
  exact ⟨rfl, HB7.out⟩
theorem two_le {B l t : Nat} (h1 : B ≤ l) (h2 : B ≤ t) : ∀ k ∈ [l, t], B ≤ k := fun k hk => by simp at hk; omega
set_option maxRecDepth 20000 in
theorem refused_e (w : World) (v : Option Addr) (E : Int) (h : ChK w v E) (he : E ≠ 0) (i n x : Int) : Calls Tryz.prog 47 #[.pointer v, .int .i64 i, .int .i64 n, .int .u32 x, .int .i64 E] w fun e w' => e = .returned (.bool true) ∧ Below w.heap.size w w' := by
  have HT := hide (take_stop w v _ E (.stop h he) he)
  have HL := hide (fun X (hb : Below w.heap.size w X) => lay_stop X v E (h.later hb) he)
  have HS := hide (fun X (hb : Below w.heap.size w X) => set_stop X v E (h.later hb) he i x)
  have HG := hide (fun X (hb : Below w.heap.size w X) => give_stop X v _ E (.stop (h.later hb) he) he n)
  clear h
  go_enter Tryz.func47, Tryz.ntmps47
  go_wp2_with (first
    | (go_at_call 41; (with_reducible refine Calls.mono HT.out ?_); rintro e w4 ⟨rfl, hb⟩; have HB4 := hide hb; clear hb)
    | (go_at_call 38; (with_reducible refine Calls.mono (HL.out _ HB4.out) ?_); rintro e w5 ⟨rfl, hb⟩; have HB5 := hide (below_trans HB4.out hb); clear hb)
    | (go_at_call 40; (with_reducible refine Calls.mono (HS.out _ HB5.out) ?_); rintro e w6 ⟨rfl, hb⟩; have HB6 := hide (below_trans HB5.out hb); clear hb)
    | (go_at_call 44; (with_reducible refine Calls.mono (HG.out _ HB6.out) ?_); rintro e w7 ⟨rfl, hb⟩; have HB7 := hide (below_trans HB6.out hb); clear hb))
  go_ret
  exact ⟨rfl, HB7.out⟩
set_option maxRecDepth 20000 in
theorem asked_e (w : World) (v : Option Addr) (E : Int) (h : GoK w v E) (he : E ≠ 0) (i : Int) : Calls Tryz.prog 48 #[.pointer v, .int .i64 i, .int .i64 E] w fun e w' => e = .returned (.bool true) ∧ Below w.heap.size w w' := by
  have HT := hide (get_stop w v _ E (.stop h he) he i)
  have HL := hide (fun X (hb : Below w.heap.size w X) => free_stop X v _ E (.stop (h.later hb) he) he)
  have HS := hide (fun X (hb : Below w.heap.size w X) => laid_e X v _ E (.stop (h.later hb) he))
  clear h
  go_enter Tryz.func48, Tryz.ntmps48
  go_wp2_with (first
    | (go_at_call 39; (with_reducible refine Calls.mono HT.out ?_); rintro e w4 ⟨rfl, hb⟩; have HB4 := hide hb; clear hb)
    | (go_at_call 102; (with_reducible refine Calls.mono (HL.out _ HB4.out) ?_); rintro e w5 ⟨rfl, hb⟩; have HB5 := hide (below_trans HB4.out hb); clear hb)
    | (go_at_call 90; (with_reducible refine Calls.mono (HS.out _ HB5.out) ?_); rintro e w6 ⟨rfl, hb⟩; have HB6 := hide (below_trans HB5.out hb); clear hb))
  go_ret
  exact ⟨rfl, HB6.out⟩
set_option maxRecDepth 20000 in
set_option maxHeartbeats 4000000 in
theorem refuses_walk (w : World) (i n x : Int) : Calls Tryz.prog 8 #[.int .i64 i, .int .i64 n, .int .u32 x] w fun e w' => e = .returned (.bool true) ∧ Below w.heap.size w w' := by
  have HD := hide (newDisk_e w 4000000 (by decide))
  have HO := hide openJ_e
  have HBg := hide (fun V s j d mb l room (hg : Gr V j d mb l room h0) hS => begin_e V s j d mb l room h0 hg 1 mayB1 hS)
  have HR1 := hide (fun V t j d mb l room (L : List Int) (c n1 : Int) (pm : Option Nat) (sv : Value) (hg : Gr V j d mb l room L) (ht : TxB V t j c n1 pm sv false false) => refused_e V _ 191 (ChK.reads hg ht) (by decide) i n x)
  have HRb := hide (fun V t j d mb l room (L : List Int) (c n1 : Int) (pm : Option Nat) (sv : Value) (hg : Gr V j d mb l room L) (ht : TxB V t j c n1 pm sv false false) => rollback_e V t j d mb l room L hg ht)
  have HR2 := hide (fun V t j (c n1 : Int) (pm : Option Nat) (sv : Value) (ht : TxB V t j c n1 pm sv false true) => refused_e V _ 7 (ChK.stop (GoK.ended ht) (by decide)) (by decide) i n x)
  have HR3 := hide (fun V => refused_e V none 1 (ChK.stop GoK.none (by decide)) (by decide) i n x)
  have HA1 := hide (fun V t j (c n1 : Int) (pm : Option Nat) (sv : Value) (ht : TxB V t j c n1 pm sv false true) => asked_e V _ 7 (GoK.ended ht) (by decide) i)
  have HA2 := hide (fun V => asked_e V none 1 GoK.none (by decide) i)
  have HAw := hide awake_e
  go_enter Tryz.func8, Tryz.ntmps8
  go_wp2_with (first
    | (go_at_call 28; (with_reducible refine Calls.mono HD.out ?_); rintro e w1 ⟨rfl, hde, hb⟩; have HD1 := hide hde; have HB1 := hide hb; clear hde hb)
    | (go_at_call 9; (with_reducible refine Calls.mono (HO.out _ _ _ _ HD1.out) ?_); rintro e w2 ⟨s, rfl, j, l, hs, hg, hb, hl⟩; have HS2 := hide hs; have HG2 := hide hg; have HB2 := hide (below_trans HB1.out hb); have HL2 := hide (Nat.le_trans HB1.out.size hl); clear hs hg hb hl)
    | (go_at_call 10; (with_reducible refine Calls.mono (HBg.out _ _ _ _ _ _ _ HG2.out HS2.out) ?_); rintro e w3 ⟨t, rfl, hb⟩; obtain ⟨pm, h1, h2, h3, h4, h5, h6, h7⟩ := hb; have HG3 := hide h1; have HT3 := hide h2; have HB3 := hide (below_only1 HB2.out h5 HL2.out); have HP3 := hide (Nat.le_trans HB2.out.size h6); clear h1 h2 h3 h4 h5 h6 h7)
    | (go_at_call 47; (with_reducible refine Calls.mono (HR1.out _ _ _ _ _ _ _ _ _ _ _ _ HG3.out HT3.out) ?_); rintro e w4 ⟨rfl, hb⟩; have HG4 := hide (HG3.out.later hb); have HT4 := hide (Blk.later HT3.out hb); have HB4 := hide (below_trans HB3.out hb); clear hb HT3)
    | (go_at_call 20; (with_reducible refine Calls.mono (HRb.out _ _ _ _ _ _ _ _ _ _ _ _ HG4.out HT4.out) ?_); rintro e w5 ⟨rfl, g1, g2, g3⟩; have HT5 := hide g2; have HB5 := hide (below_only HB4.out g3 (two_le HL2.out HP3.out)); clear g1 g2 g3)
    | (go_at_call 47; (with_reducible refine Calls.mono (HR2.out _ _ _ _ _ _ _ HT5.out) ?_); rintro e w6 ⟨rfl, hb⟩; have HT6 := hide (Blk.later HT5.out hb); have HB6 := hide (below_trans HB5.out hb); clear hb)
    | (go_at_call 47; (with_reducible refine Calls.mono (HR3.out _) ?_); rintro e w7 ⟨rfl, hb⟩; have HT7 := hide (Blk.later HT6.out hb); have HB7 := hide (below_trans HB6.out hb); clear hb)
    | (go_at_call 48; (with_reducible refine Calls.mono (HA1.out _ _ _ _ _ _ _ HT7.out) ?_); rintro e w8 ⟨rfl, hb⟩; have HB8 := hide (below_trans HB7.out hb); clear hb)
    | (go_at_call 48; (with_reducible refine Calls.mono (HA2.out _) ?_); rintro e w9 ⟨rfl, hb⟩; have HB9 := hide (below_trans HB8.out hb); clear hb)
    | (go_at_call 36; (with_reducible refine Calls.mono (HAw.out _) ?_); rintro e w10 ⟨rfl, hb⟩; have HB10 := hide (below_trans HB9.out hb); clear hb))
  go_ret
  exact ⟨rfl, HB10.out⟩
end Go.Proofs.YtadohcgplbihdaaGreat
