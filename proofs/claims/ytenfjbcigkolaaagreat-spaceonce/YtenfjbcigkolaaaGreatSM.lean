/- The walk of SpaceRefuses. -/
import Derived.Test.YtenfjbcigkolaaaGreatSL
namespace Go.Proofs.YtenfjbcigkolaaaGreat
open Go.ChangeShapes Go.WideShapes Go.ChangeAt Go.RowKit Go.Maps
set_option linter.unusedVariables false

theorem ld_of {w : World} {t pm : Nat} {P : Nat → List UInt8} {K : Nat} (h : Tr w t pm 1 (upP P 1 (firstL 0 zN)) K true) : Ld w t pm 1 (upP P 1 (firstL 0 zN)) K 0 zN := ⟨h, Nat.le_refl _, fst_of rfl (by omega) (fun i => by unfold zN; omega), by omega, fun i => by unfold zN; omega⟩
theorem ld_of2 {w : World} {t pm : Nat} {P : Nat → List UInt8} {K : Nat} (h : Tr w t pm 2 (upP (upP P 1 (firstL 0 zN)) 2 (freeL 0)) K true) : Ld w t pm 2 (upP (upP P 1 (firstL 0 zN)) 2 (freeL 0)) K 0 zN := ⟨h, by omega, fst_of rfl (by omega) (fun i => by unfold zN; omega), by omega, fun i => by unfold zN; omega⟩
theorem below_tx {w w1 w2 : World} {t pm : Nat} (h : Below w.heap.size w w1) (ho : Only [t, pm] w1 w2) (ht : w.heap.size ≤ t) (hp : w.heap.size ≤ pm) : Below w.heap.size w w2 := below_only h ho (fun k hk => by simp at hk; omega)
set_option maxRecDepth 20000 in
set_option maxHeartbeats 2000000 in
theorem awake_e (w : World) : Calls Tryz.prog 33 #[] w fun e w' => e = .returned (.bool true) ∧ Below w.heap.size w w' := by
  have HO := hide (lopen_e w)
  have HLd := hide (fun V t pm (h : Tr V t pm 0 zPg 0 true) => laid_e V _ _ _ (FoK.none h))
  have HLy := hide (fun V t pm (h : Tr V t pm 0 zPg 0 true) => lay_ok V t pm h (by omega))
  have HLb := hide (fun V t pm (h : Tr V t pm 1 (upP zPg 1 (firstL 0 zN)) 1 true) => lay_busy V t pm 1 h (Nat.le_refl _))
  have HTk := hide (fun V t pm (h : Tr V t pm 1 (upP zPg 1 (firstL 0 zN)) 1 true) => take_more V t pm 1 (ld_of h) (by omega) (by omega))
  have HGv := hide (fun V t pm (h : Tr V t pm 2 (upP (upP zPg 1 (firstL 0 zN)) 2 (freeL 0)) 2 true) => give_arg V t pm 2 (ld_of2 h) 1 (by decide))
  have HGt := hide (fun V t pm (h : Tr V t pm 2 (upP (upP zPg 1 (firstL 0 zN)) 2 (freeL 0)) 2 true) => get_arg V t pm 2 (ld_of2 h) 8 (by decide))
  go_enter Tryz.func33, Tryz.ntmps33
  go_wp2_with (first
    | (go_at_call 34; (with_reducible refine Calls.mono HO.out ?_); rintro e w1 ⟨t, rfl, pm, h1, h2, h3, h4⟩; have HT1 := hide h1; have HB1 := hide h2; have HP1 := hide (And.intro h3 h4); clear h1 h2 h3 h4)
    | (go_at_call 45; (with_reducible refine Calls.mono (HLd.out _ _ _ HT1.out) ?_); rintro e w2 ⟨rfl, hb⟩; have HT2 := hide (HT1.out.later hb); have HB2 := hide (below_trans HB1.out hb); clear hb)
    | (go_at_call 35; (with_reducible refine Calls.mono (HLy.out _ _ _ HT2.out) ?_); rintro e w3 ⟨rfl, g1, g2⟩; have HT3 := hide g1; have HB3 := hide (below_tx HB2.out g2 HP1.out.1 HP1.out.2); clear g1 g2 HT2)
    | (go_at_call 35; (with_reducible refine Calls.mono (HLb.out _ _ _ HT3.out) ?_); rintro e w4 ⟨rfl, hb⟩; have HT4 := hide (HT3.out.later hb); have HB4 := hide (below_trans HB3.out hb); clear hb)
    | (go_at_call 38; (with_reducible refine Calls.mono (HTk.out _ _ _ HT4.out) ?_); rintro e w5 ⟨rfl, g1, g2⟩; have HT5 := hide g1; have HB5 := hide (below_tx HB4.out g2 HP1.out.1 HP1.out.2); clear g1 g2)
    | (go_at_call 41; (with_reducible refine Calls.mono (HGv.out _ _ _ HT5.out) ?_); rintro e w6 ⟨rfl, hb⟩; have HT6 := hide (HT5.out.later hb); have HB6 := hide (below_trans HB5.out hb); clear hb)
    | (go_at_call 36; (with_reducible refine Calls.mono (HGt.out _ _ _ HT6.out) ?_); rintro e w7 ⟨rfl, hb⟩; have HB7 := hide (below_trans HB6.out hb); clear hb))
  go_ret
  exact ⟨rfl, HB7.out⟩
end Go.Proofs.YtenfjbcigkolaaaGreat
