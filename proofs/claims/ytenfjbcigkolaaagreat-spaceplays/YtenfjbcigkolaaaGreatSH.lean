/- Package space: what stands in the way of its calls; Laid, Lay. -/
import Derived.Test.YtenfjbcigkolaaaGreatSG
namespace Go.Proofs.YtenfjbcigkolaaaGreat
variable {sv : Value}
open Go.ChangeShapes Go.WideShapes Go.ChangeAt Go.RowKit Go.Maps
set_option linter.unusedVariables false

theorem V_of {w : World} {v : Option Addr} {V : List Value} {E : Int} (h : FoK w v V E) : (Tryz.prog.info? 151).map (·.size) = some V.toArray.size ∧ V.toArray.size = (fstL 0 zN).toArray.size ∧ V.toArray.all (·.oneCell') = true := by
  cases h with
  | stop h he => exact ⟨sizeF 0 zN, rfl, fstL_one 0 zN⟩
  | none h => exact ⟨sizeF 0 zN, rfl, fstL_one 0 zN⟩
  | page h hn => exact ⟨rdV_size _, by rw [List.size_toArray, List.size_toArray, rdV_length, fstL_length], rdV_one _⟩
/-- What firstToChange tells. -/
inductive FcK (w : World) : Option Addr → List Value → Int → Prop where
  | stop {v : Option Addr} {e : Int} (h : ChK w v e) (he : e ≠ 0) : FcK w v (fstL 0 zN) e
  | on {v : Option Addr} {V : List Value} {e : Int} (h : ChK w v 0) (hf : FoK w v V e) : FcK w v V e
theorem FcK.later {w w' : World} {v : Option Addr} {V : List Value} {e : Int} (h : FcK w v V e) (hb : Below w.heap.size w w') : FcK w' v V e := by
  cases h with
  | stop h he => exact .stop (h.later hb) he
  | on h hf => exact .on (h.later hb) (hf.later hb)
theorem V_ofC {w : World} {v : Option Addr} {V : List Value} {E : Int} (h : FcK w v V E) : (Tryz.prog.info? 151).map (·.size) = some V.toArray.size ∧ V.toArray.size = (fstL 0 zN).toArray.size ∧ V.toArray.all (·.oneCell') = true := by
  cases h with
  | stop h he => exact ⟨sizeF 0 zN, rfl, fstL_one 0 zN⟩
  | on h hf => exact V_of hf
set_option maxRecDepth 20000 in
set_option maxHeartbeats 2000000 in
theorem firstToChange_e (w : World) (v : Option Addr) (V : List Value) (E : Int) (h : FcK w v V E) : Calls Tryz.prog 95 #[.pointer v] w fun e w' => e = .returned (.tuple #[.agg V.toArray, .int .i64 E]) ∧ Below w.heap.size w w' := by
  have HF0 := hide (fst_new w)
  have HB0 := hide (below_alloc w (.cells #[.int .u32 0, .int .u32 0, .int .u32 0, .int .u32 0, .int .u32 0, .int .u32 0, .int .u32 0, .int .u32 0, .int .u32 0] 151))
  have HV := hide (V_ofC h)
  have HI0 := hide (sizeF 0 zN)
  cases h with
  | stop h he =>
    have HM := hide (smayChange_e _ v E (h.later HB0.out) h.ne2)
    have he0 : (E == 0) = false := by simpa using he
    clear h
    go_enter Tryz.func95, Tryz.ntmps95
    go_wp2_with (first
      | (go_at_call 91; (with_reducible refine Calls.mono HM.out ?_); rintro e w4 ⟨rfl, hb⟩; have HB4 := hide (below_trans HB0.out hb); have HF4 := hide (Blk.later HF0.out hb); clear hb)
      | ((with_reducible refine atSt 151 ?_); refine wp_storeB (c := (fstL 0 zN).toArray) HI0.out rfl zero_one HF4.out _ _ (by rfl) (by rfl) (by rfl) (by rfl) ?_; intro W7 hb7 ho7; have HF7 := hide hb7; have HB7 := hide (below_only1 HB4.out ho7 (Nat.le_refl _)); clear hb7 ho7))
    refine ret_blk2 (c := (fstL 0 zN).toArray) HI0.out uF Tryz.results95 (by rfl) (by rfl) HF7.out ?_
    exact ⟨rfl, HB7.out⟩
  | on h hf =>
    have HM := hide (smayChange_e _ v 0 (h.later HB0.out) (by decide))
    have HO := hide (fun X (hb : Below w.heap.size w X) => firstOf_e X v V E (hf.later hb))
    clear h hf
    go_enter Tryz.func95, Tryz.ntmps95
    go_wp2_with (first
      | (go_at_call 91; (with_reducible refine Calls.mono HM.out ?_); rintro e w4 ⟨rfl, hb⟩; have HB4 := hide (below_trans HB0.out hb); have HF4 := hide (Blk.later HF0.out hb); clear hb)
      | (go_at_call 93; (with_reducible refine Calls.mono (HO.out _ HB4.out) ?_); rintro e w5 ⟨rfl, hb⟩; have HB5 := hide (below_trans HB4.out hb); have HF5 := hide (Blk.later HF4.out hb); clear hb)
      | ((with_reducible refine atSt 151 ?_); refine wp_storeB (c := V.toArray) HV.out.1 HV.out.2.1 HV.out.2.2 HF5.out _ _ (by rfl) (by rfl) (by rfl) (by rfl) ?_; intro W7 hb7 ho7; have HF7 := hide hb7; have HB7 := hide (below_only1 HB5.out ho7 (Nat.le_refl _)); clear hb7 ho7))
    refine ret_blk2 (c := V.toArray) HV.out.1 uF Tryz.results95 (by rfl) (by rfl) HF7.out ?_
    exact ⟨rfl, HB7.out⟩
set_option maxRecDepth 20000 in
theorem get_stop (w : World) (v : Option Addr) (V : List Value) (E : Int) (h : FoK w v V E) (he : E ≠ 0) (i : Int) : Calls Tryz.prog 36 #[.pointer v, .int .i64 i] w fun e w' => e = .returned (.tuple #[.int .u32 0, .int .i64 E]) ∧ Below w.heap.size w w' := by
  have HO := hide (firstOf_e w v V E h)
  have HV := hide (V_of h)
  have he0 : (E == 0) = false := by simpa using he
  have HFn := hide fst_new
  clear h
  go_enter Tryz.func36, Tryz.ntmps36
  go_wp2_with (first
    | (go_at_call 93; (with_reducible refine Calls.mono HO.out ?_); rintro e w4 ⟨rfl, hb⟩; have HB4 := hide (below_trans hb (below_alloc w4 (.cells #[.int .u32 0, .int .u32 0, .int .u32 0, .int .u32 0, .int .u32 0, .int .u32 0, .int .u32 0, .int .u32 0, .int .u32 0] 151))); have HF4 := hide (HFn.out w4); have HS4 := hide hb.size; clear hb)
    | ((with_reducible refine atSt 151 ?_); refine wp_storeB (c := V.toArray) HV.out.1 HV.out.2.1 HV.out.2.2 HF4.out _ _ (by rfl) (by rfl) (by rfl) (by rfl) ?_; intro W7 hb7 ho7; have HB7 := hide (below_only1 HB4.out ho7 HS4.out); clear hb7 ho7))
  go_ret2
  exact ⟨rfl, HB7.out⟩
set_option maxRecDepth 20000 in
theorem free_stop (w : World) (v : Option Addr) (V : List Value) (E : Int) (h : FoK w v V E) (he : E ≠ 0) : Calls Tryz.prog 44 #[.pointer v] w fun e w' => e = .returned (.tuple #[.slice none 0 0, .int .i64 E]) ∧ Below w.heap.size w w' := by
  have HO := hide (firstOf_e w v V E h)
  have HV := hide (V_of h)
  have he0 : (E == 0) = false := by simpa using he
  have HFn := hide fst_new
  clear h
  go_enter Tryz.func44, Tryz.ntmps44
  go_wp2_with (first
    | (go_at_call 93; (with_reducible refine Calls.mono HO.out ?_); rintro e w4 ⟨rfl, hb⟩; have HB4 := hide (below_trans hb (below_alloc w4 (.cells #[.int .u32 0, .int .u32 0, .int .u32 0, .int .u32 0, .int .u32 0, .int .u32 0, .int .u32 0, .int .u32 0, .int .u32 0] 151))); have HF4 := hide (HFn.out w4); have HS4 := hide hb.size; clear hb)
    | ((with_reducible refine atSt 151 ?_); refine wp_storeB (c := V.toArray) HV.out.1 HV.out.2.1 HV.out.2.2 HF4.out _ _ (by rfl) (by rfl) (by rfl) (by rfl) ?_; intro W7 hb7 ho7; have HB7 := hide (below_only1 HB4.out ho7 HS4.out); clear hb7 ho7))
  go_ret2
  exact ⟨rfl, HB7.out⟩
set_option maxRecDepth 20000 in
theorem take_stop (w : World) (v : Option Addr) (V : List Value) (E : Int) (h : FcK w v V E) (he : E ≠ 0) : Calls Tryz.prog 38 #[.pointer v] w fun e w' => e = .returned (.tuple #[.int .i64 0, .int .i64 E]) ∧ Below w.heap.size w w' := by
  have HO := hide (firstToChange_e w v V E h)
  have HV := hide (V_ofC h)
  have he0 : (E == 0) = false := by simpa using he
  have HFn := hide fst_new
  clear h
  go_enter Tryz.func38, Tryz.ntmps38
  go_wp2_with (first
    | (go_at_call 95; (with_reducible refine Calls.mono HO.out ?_); rintro e w4 ⟨rfl, hb⟩; have HB4 := hide (below_trans hb (below_alloc w4 (.cells #[.int .u32 0, .int .u32 0, .int .u32 0, .int .u32 0, .int .u32 0, .int .u32 0, .int .u32 0, .int .u32 0, .int .u32 0] 151))); have HF4 := hide (HFn.out w4); have HS4 := hide hb.size; clear hb)
    | ((with_reducible refine atSt 151 ?_); refine wp_storeB (c := V.toArray) HV.out.1 HV.out.2.1 HV.out.2.2 HF4.out _ _ (by rfl) (by rfl) (by rfl) (by rfl) ?_; intro W7 hb7 ho7; have HB7 := hide (below_only1 HB4.out ho7 HS4.out); clear hb7 ho7))
  go_ret2
  exact ⟨rfl, HB7.out⟩
set_option maxRecDepth 20000 in
theorem give_stop (w : World) (v : Option Addr) (V : List Value) (E : Int) (h : FcK w v V E) (he : E ≠ 0) (n : Int) : Calls Tryz.prog 41 #[.pointer v, .int .i64 n] w fun e w' => e = .returned (.int .i64 E) ∧ Below w.heap.size w w' := by
  have HO := hide (firstToChange_e w v V E h)
  have HV := hide (V_ofC h)
  have he0 : (E == 0) = false := by simpa using he
  have HFn := hide fst_new
  clear h
  go_enter Tryz.func41, Tryz.ntmps41
  go_wp2_with (first
    | (go_at_call 95; (with_reducible refine Calls.mono HO.out ?_); rintro e w4 ⟨rfl, hb⟩; have HB4 := hide (below_trans hb (below_alloc w4 (.cells #[.int .u32 0, .int .u32 0, .int .u32 0, .int .u32 0, .int .u32 0, .int .u32 0, .int .u32 0, .int .u32 0, .int .u32 0] 151))); have HF4 := hide (HFn.out w4); have HS4 := hide hb.size; clear hb)
    | ((with_reducible refine atSt 151 ?_); refine wp_storeB (c := V.toArray) HV.out.1 HV.out.2.1 HV.out.2.2 HF4.out _ _ (by rfl) (by rfl) (by rfl) (by rfl) ?_; intro W7 hb7 ho7; have HB7 := hide (below_only1 HB4.out ho7 HS4.out); clear hb7 ho7))
  go_ret
  exact ⟨rfl, HB7.out⟩
set_option maxRecDepth 20000 in
theorem laid_e (w : World) (v : Option Addr) (V : List Value) (E : Int) (h : FoK w v V E) : Calls Tryz.prog 45 #[.pointer v] w fun e w' => e = .returned (.int .i64 E) ∧ Below w.heap.size w w' := by
  have HO := hide (firstOf_e w v V E h)
  have HV := hide (V_of h)
  have HFn := hide fst_new
  clear h
  go_enter Tryz.func45, Tryz.ntmps45
  go_wp2_with (first
    | (go_at_call 93; (with_reducible refine Calls.mono HO.out ?_); rintro e w4 ⟨rfl, hb⟩; have HB4 := hide (below_trans hb (below_alloc w4 (.cells #[.int .u32 0, .int .u32 0, .int .u32 0, .int .u32 0, .int .u32 0, .int .u32 0, .int .u32 0, .int .u32 0, .int .u32 0] 151))); have HF4 := hide (HFn.out w4); have HS4 := hide hb.size; have HB3 := hide hb; clear hb)
    | ((with_reducible refine atSt 151 ?_); refine wp_storeB (c := V.toArray) HV.out.1 HV.out.2.1 HV.out.2.2 HF4.out _ _ (by rfl) (by rfl) (by rfl) (by rfl) ?_; intro W7 hb7 ho7; have HB3 := hide (below_only1 HB4.out ho7 HS4.out); clear hb7 ho7))
  go_ret
  exact ⟨rfl, HB3.out⟩
theorem lay_stop (w : World) (v : Option Addr) (E : Int) (h : ChK w v E) (he : E ≠ 0) : Calls Tryz.prog 35 #[.pointer v] w fun e w' => e = .returned (.int .i64 E) ∧ Below w.heap.size w w' := by
  have HM := hide (smayChange_e w v E h h.ne2)
  have he0 : (E == 0) = false := by simpa using he
  clear h
  go_enter Tryz.func35, Tryz.ntmps35
  go_wp2_with (first
    | (go_at_call 91; (with_reducible refine Calls.mono HM.out ?_); rintro e w4 ⟨rfl, hb⟩; have HB4 := hide hb; clear hb))
  go_ret
  exact ⟨rfl, HB4.out⟩
theorem set_stop (w : World) (v : Option Addr) (E : Int) (h : ChK w v E) (he : E ≠ 0) (i x : Int) : Calls Tryz.prog 37 #[.pointer v, .int .i64 i, .int .u32 x] w fun e w' => e = .returned (.int .i64 E) ∧ Below w.heap.size w w' := by
  have HM := hide (smayChange_e w v E h h.ne2)
  have he0 : (E == 0) = false := by simpa using he
  clear h
  go_enter Tryz.func37, Tryz.ntmps37
  go_wp2_with (first
    | (go_at_call 91; (with_reducible refine Calls.mono HM.out ?_); rintro e w4 ⟨rfl, hb⟩; have HB4 := hide hb; clear hb))
  go_ret
  exact ⟨rfl, HB4.out⟩
theorem lay_busy (w : World) (t pm n : Nat) {P : Nat → List UInt8} {K : Nat} (h : Tr sv w t pm n P K true) (hn : 1 ≤ n) : Calls Tryz.prog 35 #[.pointer (some ⟨t, 0, none⟩)] w fun e w' => e = .returned (.int .i64 6) ∧ Below w.heap.size w w' := by
  have HM := hide (smayChange_e w _ 0 h.chK (by decide))
  have HC := hide (fun X (hb : Below w.heap.size w X) => count_e X t pm n (h.later hb))
  have hl : (0 : Int) < (n : Int) := by omega
  clear h
  go_enter Tryz.func35, Tryz.ntmps35
  go_wp2_with (first
    | (go_at_call 91; (with_reducible refine Calls.mono HM.out ?_); rintro e w4 ⟨rfl, hb⟩; have HB4 := hide hb; clear hb)
    | (go_at_call 21; (with_reducible refine Calls.mono (HC.out _ HB4.out) ?_); rintro e w5 ⟨rfl, hb⟩; have HB5 := hide (below_trans HB4.out hb); clear hb))
  go_ret
  exact ⟨rfl, HB5.out⟩
set_option maxRecDepth 20000 in
theorem lay_ok (w : World) (t pm : Nat) {P : Nat → List UInt8} {K : Nat} (h : Tr sv w t pm 0 P K true) (hK : K ≤ 100000) : Calls Tryz.prog 35 #[.pointer (some ⟨t, 0, none⟩)] w fun e w' => e = .returned (.int .i64 0) ∧ Tr sv w' t pm 1 (upP P 1 (firstL 0 zN)) (K + 1) true ∧ Only [t, pm] w w' := by
  have HM := hide (smayChange_e w _ 0 h.chK (by decide))
  have HC := hide (fun X (hb : Below w.heap.size w X) => count_e X t pm 0 (h.later hb))
  have HP := hide (fun X (hb : Below w.heap.size w X) => (sput_e X _ 0 (by omega) zN (fun i => by unfold zN; omega) 0 _ (PtK.inn (k := 1) (h.later hb) (Nat.le_refl _) (by omega) (by omega) hK)).mono (fun e w' hh => (And.intro hh.1 (And.intro hh.2.1 (Only.after_below hb hh.2.2)) : e = .returned (.int .i64 0) ∧ Tr sv w' t pm (max 0 1) (upP P 1 (firstL 0 zN)) (K + 1) true ∧ Only [t, pm] w w')))
  rw [show max 0 1 = 1 from rfl] at HP
  have hfz : ∀ N : Nat → Nat, N = zN → (fstL 0 N).toArray = #[.int .u32 0, .int .u32 0, .int .u32 0, .int .u32 0, .int .u32 0, .int .u32 0, .int .u32 0, .int .u32 0, .int .u32 0] := fun N h => by rw [h]; rfl
  rw [hfz zN rfl] at HP
  clear h hfz
  go_enter Tryz.func35, Tryz.ntmps35
  go_wp2_with (first
    | (go_at_call 91; (with_reducible refine Calls.mono HM.out ?_); rintro e w4 ⟨rfl, hb⟩; have HB4 := hide hb; clear hb)
    | (go_at_call 21; (with_reducible refine Calls.mono (HC.out _ HB4.out) ?_); rintro e w5 ⟨rfl, hb⟩; have HB5 := hide (below_trans HB4.out hb); clear hb)
    | (go_at_call 92; (with_reducible refine Calls.mono (HP.out _ HB5.out) ?_); rintro e w6 ⟨rfl, hb⟩; have HB6 := hide hb; clear hb))
  go_ret
  exact ⟨rfl, HB6.out⟩
end Go.Proofs.YtenfjbcigkolaaaGreat
