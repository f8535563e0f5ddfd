/- Package space: the first page of a transaction; laid or not; its numbers. -/
/- Package space: what stands in the way of its calls; Laid, Lay. -/
import Derived.Test.YthgclfhfipfknaaGreatSF
namespace Go.Proofs.YthgclfhfipfknaaGreat
variable {sv : Value}
open Go.ChangeShapes Go.WideShapes Go.ChangeAt Go.RowKit Go.Maps
set_option linter.unusedVariables false

theorem read_any (w : World) (l : List UInt8) (hl : l.length = 256) : Calls Tryz.prog 121 #[.agg (bc l)] w fun e w' => e = .returned (.tuple #[.agg (rdV l).toArray, .int .i64 (rdE l)]) ∧ Below w.heap.size w w' := by
  by_cases h : kindV l = 0 ∧ cntV l = 9
  · exact read_cells w l hl h.1 h.2
  · have hn : ¬ fok l := fun hf => h ⟨hf.1, hf.2.1⟩
    rw [show rdV l = fstL 0 zN from if_neg hn, show rdE l = 8 from if_neg hn]
    exact read_kind w l hl h
theorem rdV_length (l : List UInt8) : (rdV l).length = 9 := by unfold rdV; split <;> exact fstL_length _ _
theorem rdV_size (l : List UInt8) : (Tryz.prog.info? 105).map (·.size) = some (rdV l).toArray.size := by rw [List.size_toArray, rdV_length]; exact infoF
theorem rdV_one (l : List UInt8) : (rdV l).toArray.all (·.oneCell') = true := by unfold rdV; split <;> exact fstL_one _ _
/-- What firstOf tells. -/
inductive FoK (w : World) : Option Addr → List Value → Int → Prop where
  | stop {v : Option Addr} {e : Int} (h : GoK w v e) (he : e ≠ 0) : FoK w v (fstL 0 zN) e
  | none {sv : Value} {t pm : Nat} {P : Nat → List UInt8} {K : Nat} {wr : Bool} (h : Tr sv w t pm 0 P K wr) : FoK w (some ⟨t, 0, Option.none⟩) (fstL 0 zN) 8
  | page {sv : Value} {t pm n : Nat} {P : Nat → List UInt8} {K : Nat} {wr : Bool} (h : Tr sv w t pm n P K wr) (hn : 1 ≤ n) : FoK w (some ⟨t, 0, Option.none⟩) (rdV (P 1)) (rdE (P 1))
theorem FoK.later {w w' : World} {v : Option Addr} {V : List Value} {e : Int} (h : FoK w v V e) (hb : Below w.heap.size w w') : FoK w' v V e := by
  cases h with
  | stop h he => exact .stop (h.later hb) he
  | none h => exact .none (h.later hb)
  | page h hn => exact .page (h.later hb) hn
theorem strict_alloc {w w4 : World} {o : Obj} (hb : Below (w.alloc o).heap.size (w.alloc o) w4) : w.heap.size < w4.heap.size := by have := hb.size; simp at this; omega
theorem zero_one : (fstL 0 zN).toArray.all (·.oneCell') = true := fstL_one 0 zN
set_option maxRecDepth 20000 in
set_option maxHeartbeats 2000000 in
theorem firstOf_e (w : World) (v : Option Addr) (V : List Value) (E : Int) (h : FoK w v V E) : Calls Tryz.prog 50 #[.pointer v] w fun e w' => e = .returned (.tuple #[.agg V.toArray, .int .i64 E]) ∧ Below w.heap.size w w' := by
  have HF0 := hide (fst_new w)
  have HB0 := hide (below_alloc w (.cells #[.int .u32 0, .int .u32 0, .int .u32 0, .int .u32 0, .int .u32 0, .int .u32 0, .int .u32 0, .int .u32 0, .int .u32 0] 105))
  have HI0 := hide (sizeF 0 zN)
  have hz := zeroP
  have h' := h.later HB0.out
  cases h with
  | stop h he =>
    have HP := hide (page_e _ v 1 zs E (.stop (h.later HB0.out) he))
    have h17 := h.cases
    rcases (show E = 1 ∨ E = 7 by omega) with rfl | rfl
    all_goals
      clear h h' he h17
      go_enter Tryz.func50, Tryz.ntmps50
      go_wp2_with (first
        | (go_at_call 102; (with_reducible refine Calls.mono HP.out ?_); rintro e w4 ⟨rfl, hb⟩; have HB4 := hide (below_trans HB0.out (below_trans hb (below_alloc w4 (.cells (bc zs) 59)))); have HF4 := hide (Blk.later HF0.out (below_trans hb (below_alloc w4 (.cells (bc zs) 59)))); have HN4 := hide (PAt.new w4 zs); have HS4 := hide (strict_alloc hb); clear hb)
        | ((with_reducible refine atSt 59 ?_); refine wp_storeP zs_length zs_length HN4.out _ _ (by rfl) (by rfl) (by rfl) (by rfl) ?_; intro W5 hp hb hk; have HB5 := hide (hb _ _ HB4.out (Nat.le_of_lt HS4.out)); have HF5 := hide ((hk w.heap.size (Nat.ne_of_lt HS4.out)).trans HF4.out); clear hp hb hk)
        | ((with_reducible refine atSt 105 ?_); refine wp_storeB (c := (fstL 0 zN).toArray) HI0.out rfl zero_one HF5.out _ _ (by rfl) (by rfl) (by rfl) (by rfl) ?_; intro W6 hb6 ho6; have HF6 := hide hb6; have HB6 := hide (below_only1 HB5.out ho6 (Nat.le_refl _)); clear hb6 ho6))
      refine ret_blk2 (c := (fstL 0 zN).toArray) HI0.out uF Tryz.results50 (by rfl) (by rfl) HF6.out ?_
      exact ⟨rfl, HB6.out⟩
  | none h =>
    have HP := hide (page_e _ _ 1 zs 4 (.out (h.later HB0.out) (.inr (by omega))))
    clear h h'
    go_enter Tryz.func50, Tryz.ntmps50
    go_wp2_with (first
      | (go_at_call 102; (with_reducible refine Calls.mono HP.out ?_); rintro e w4 ⟨rfl, hb⟩; have HB4 := hide (below_trans HB0.out (below_trans hb (below_alloc w4 (.cells (bc zs) 59)))); have HF4 := hide (Blk.later HF0.out (below_trans hb (below_alloc w4 (.cells (bc zs) 59)))); have HN4 := hide (PAt.new w4 zs); have HS4 := hide (strict_alloc hb); clear hb)
      | ((with_reducible refine atSt 59 ?_); refine wp_storeP zs_length zs_length HN4.out _ _ (by rfl) (by rfl) (by rfl) (by rfl) ?_; intro W5 hp hb hk; have HB5 := hide (hb _ _ HB4.out (Nat.le_of_lt HS4.out)); have HF5 := hide ((hk w.heap.size (Nat.ne_of_lt HS4.out)).trans HF4.out); clear hp hb hk)
      | ((with_reducible refine atSt 105 ?_); refine wp_storeB (c := (fstL 0 zN).toArray) HI0.out rfl zero_one HF5.out _ _ (by rfl) (by rfl) (by rfl) (by rfl) ?_; intro W6 hb6 ho6; have HF6 := hide hb6; have HB6 := hide (below_only1 HB5.out ho6 (Nat.le_refl _)); clear hb6 ho6))
    refine ret_blk2 (c := (fstL 0 zN).toArray) HI0.out uF Tryz.results50 (by rfl) (by rfl) HF6.out ?_
    exact ⟨rfl, HB6.out⟩
  | @page _ t pm n P K wr h hn =>
    have HP := hide (page_e _ _ 1 (P 1) 0 (PgK.inn (k := 1) (h.later HB0.out) (Nat.le_refl _) hn))
    have HL := hide (h.len 1)
    have HR := hide (fun V => read_any V (P 1) (h.len 1))
    have HIr := hide (rdV_size (P 1))
    have HOr := hide (rdV_one (P 1))
    have HSr : Hid ((rdV (P 1)).toArray.size = (fstL 0 zN).toArray.size) := by show _ = _; rw [List.size_toArray, List.size_toArray, rdV_length, fstL_length]
    generalize P 1 = l at *
    clear h h' hn
    go_enter Tryz.func50, Tryz.ntmps50
    go_wp2_with (first
      | (go_at_call 102; (with_reducible refine Calls.mono HP.out ?_); rintro e w4 ⟨rfl, hb⟩; have HB4 := hide (below_trans HB0.out (below_trans hb (below_alloc w4 (.cells (bc zs) 59)))); have HF4 := hide (Blk.later HF0.out (below_trans hb (below_alloc w4 (.cells (bc zs) 59)))); have HN4 := hide (PAt.new w4 zs); have HS4 := hide (strict_alloc hb); clear hb)
      | ((with_reducible refine atSt 59 ?_); refine wp_storeP HL.out zs_length HN4.out _ _ (by rfl) (by rfl) (by rfl) (by rfl) ?_; intro W5 hp hb hk; have HP5 := hide hp; have HB5 := hide (hb _ _ HB4.out (Nat.le_of_lt HS4.out)); have HF5 := hide ((hk w.heap.size (Nat.ne_of_lt HS4.out)).trans HF4.out); clear hp hb hk)
      | ((with_reducible refine atLd 59 ?_); refine wp_loadP HL.out HP5.out _ (by rfl) (by rfl) (by rfl) ?_)
      | (go_at_call 121; (with_reducible refine Calls.mono (HR.out _) ?_); rintro e w6 ⟨rfl, hb⟩; have HB6 := hide (below_trans HB5.out hb); have HF6 := hide (Blk.later HF5.out hb); clear hb)
      | ((with_reducible refine atSt 105 ?_); refine wp_storeB (c := (rdV l).toArray) HIr.out HSr.out HOr.out HF6.out _ _ (by rfl) (by rfl) (by rfl) (by rfl) ?_; intro W7 hb7 ho7; have HF7 := hide hb7; have HB7 := hide (below_only1 HB6.out ho7 (Nat.le_refl _)); clear hb7 ho7))
    refine ret_blk2 (c := (rdV l).toArray) HIr.out uF Tryz.results50 (by rfl) (by rfl) HF7.out ?_
    exact ⟨rfl, HB7.out⟩
end Go.Proofs.YthgclfhfipfknaaGreat

namespace Go.Proofs.YthgclfhfipfknaaGreat
variable {sv : Value}
open Go.ChangeShapes Go.WideShapes Go.ChangeAt Go.RowKit Go.Maps
set_option linter.unusedVariables false

theorem V_of {w : World} {v : Option Addr} {V : List Value} {E : Int} (h : FoK w v V E) : (Tryz.prog.info? 105).map (·.size) = some V.toArray.size ∧ V.toArray.size = (fstL 0 zN).toArray.size ∧ V.toArray.all (·.oneCell') = true := by
  cases h with
  | stop h he => exact ⟨sizeF 0 zN, rfl, fstL_one 0 zN⟩
  | none h => exact ⟨sizeF 0 zN, rfl, fstL_one 0 zN⟩
  | page h hn => exact ⟨rdV_size _, by rw [List.size_toArray, List.size_toArray, rdV_length, fstL_length], rdV_one _⟩
/-- What firstToChange tells. -/
inductive FcK (w : World) : Option Addr → List Value → Int → Prop where
  | stop {v : Option Addr} {e : Int} (h : ChK w v e) (he : e ≠ 0) : FcK w v (fstL 0 zN) e
  | on {v : Option Addr} {V : List Value} {e : Int} (h : ChK w v 0) (hf : FoK w v V e) : FcK w v V e
theorem FcK.later {w w' : World} {v : Option Addr} {V : List Value} {e : Int} (h : FcK w v V e) (hb : Below w.heap.size w w') : FcK w' v V e := by
  cases h with
  | stop h he => exact .stop (h.later hb) he
  | on h hf => exact .on (h.later hb) (hf.later hb)
theorem V_ofC {w : World} {v : Option Addr} {V : List Value} {E : Int} (h : FcK w v V E) : (Tryz.prog.info? 105).map (·.size) = some V.toArray.size ∧ V.toArray.size = (fstL 0 zN).toArray.size ∧ V.toArray.all (·.oneCell') = true := by
  cases h with
  | stop h he => exact ⟨sizeF 0 zN, rfl, fstL_one 0 zN⟩
  | on h hf => exact V_of hf
set_option maxRecDepth 20000 in
set_option maxHeartbeats 2000000 in
theorem firstToChange_e (w : World) (v : Option Addr) (V : List Value) (E : Int) (h : FcK w v V E) : Calls Tryz.prog 113 #[.pointer v] w fun e w' => e = .returned (.tuple #[.agg V.toArray, .int .i64 E]) ∧ Below w.heap.size w w' := by
  have HF0 := hide (fst_new w)
  have HB0 := hide (below_alloc w (.cells #[.int .u32 0, .int .u32 0, .int .u32 0, .int .u32 0, .int .u32 0, .int .u32 0, .int .u32 0, .int .u32 0, .int .u32 0] 105))
  have HV := hide (V_ofC h)
  have HI0 := hide (sizeF 0 zN)
  cases h with
  | stop h he =>
    have HM := hide (smayChange_e _ v E (h.later HB0.out) h.ne2)
    have he0 : (E == 0) = false := by simpa using he
    clear h
    go_enter Tryz.func113, Tryz.ntmps113
    go_wp2_with (first
      | (go_at_call 95; (with_reducible refine Calls.mono HM.out ?_); rintro e w4 ⟨rfl, hb⟩; have HB4 := hide (below_trans HB0.out hb); have HF4 := hide (Blk.later HF0.out hb); clear hb)
      | ((with_reducible refine atSt 105 ?_); refine wp_storeB (c := (fstL 0 zN).toArray) HI0.out rfl zero_one HF4.out _ _ (by rfl) (by rfl) (by rfl) (by rfl) ?_; intro W7 hb7 ho7; have HF7 := hide hb7; have HB7 := hide (below_only1 HB4.out ho7 (Nat.le_refl _)); clear hb7 ho7))
    refine ret_blk2 (c := (fstL 0 zN).toArray) HI0.out uF Tryz.results113 (by rfl) (by rfl) HF7.out ?_
    exact ⟨rfl, HB7.out⟩
  | on h hf =>
    have HM := hide (smayChange_e _ v 0 (h.later HB0.out) (by decide))
    have HO := hide (fun X (hb : Below w.heap.size w X) => firstOf_e X v V E (hf.later hb))
    clear h hf
    go_enter Tryz.func113, Tryz.ntmps113
    go_wp2_with (first
      | (go_at_call 95; (with_reducible refine Calls.mono HM.out ?_); rintro e w4 ⟨rfl, hb⟩; have HB4 := hide (below_trans HB0.out hb); have HF4 := hide (Blk.later HF0.out hb); clear hb)
      | (go_at_call 50; (with_reducible refine Calls.mono (HO.out _ HB4.out) ?_); rintro e w5 ⟨rfl, hb⟩; have HB5 := hide (below_trans HB4.out hb); have HF5 := hide (Blk.later HF4.out hb); clear hb)
      | ((with_reducible refine atSt 105 ?_); refine wp_storeB (c := V.toArray) HV.out.1 HV.out.2.1 HV.out.2.2 HF5.out _ _ (by rfl) (by rfl) (by rfl) (by rfl) ?_; intro W7 hb7 ho7; have HF7 := hide hb7; have HB7 := hide (below_only1 HB5.out ho7 (Nat.le_refl _)); clear hb7 ho7))
    refine ret_blk2 (c := V.toArray) HV.out.1 uF Tryz.results113 (by rfl) (by rfl) HF7.out ?_
    exact ⟨rfl, HB7.out⟩
set_option maxRecDepth 20000 in
theorem free_stop (w : World) (v : Option Addr) (V : List Value) (E : Int) (h : FoK w v V E) (he : E ≠ 0) : Calls Tryz.prog 17 #[.pointer v] w fun e w' => e = .returned (.tuple #[.slice none 0 0, .int .i64 E]) ∧ Below w.heap.size w w' := by
  have HO := hide (firstOf_e w v V E h)
  have HV := hide (V_of h)
  have he0 : (E == 0) = false := by simpa using he
  have HFn := hide fst_new
  clear h
  go_enter Tryz.func17, Tryz.ntmps17
  go_wp2_with (first
    | (go_at_call 50; (with_reducible refine Calls.mono HO.out ?_); rintro e w4 ⟨rfl, hb⟩; have HB4 := hide (below_trans hb (below_alloc w4 (.cells #[.int .u32 0, .int .u32 0, .int .u32 0, .int .u32 0, .int .u32 0, .int .u32 0, .int .u32 0, .int .u32 0, .int .u32 0] 105))); have HF4 := hide (HFn.out w4); have HS4 := hide hb.size; clear hb)
    | ((with_reducible refine atSt 105 ?_); refine wp_storeB (c := V.toArray) HV.out.1 HV.out.2.1 HV.out.2.2 HF4.out _ _ (by rfl) (by rfl) (by rfl) (by rfl) ?_; intro W7 hb7 ho7; have HB7 := hide (below_only1 HB4.out ho7 HS4.out); clear hb7 ho7))
  go_ret2
  exact ⟨rfl, HB7.out⟩
set_option maxRecDepth 20000 in
theorem take_stop (w : World) (v : Option Addr) (V : List Value) (E : Int) (h : FcK w v V E) (he : E ≠ 0) : Calls Tryz.prog 119 #[.pointer v] w fun e w' => e = .returned (.tuple #[.int .i64 0, .int .i64 E]) ∧ Below w.heap.size w w' := by
  have HO := hide (firstToChange_e w v V E h)
  have HV := hide (V_ofC h)
  have he0 : (E == 0) = false := by simpa using he
  have HFn := hide fst_new
  clear h
  go_enter Tryz.func119, Tryz.ntmps119
  go_wp2_with (first
    | (go_at_call 113; (with_reducible refine Calls.mono HO.out ?_); rintro e w4 ⟨rfl, hb⟩; have HB4 := hide (below_trans hb (below_alloc w4 (.cells #[.int .u32 0, .int .u32 0, .int .u32 0, .int .u32 0, .int .u32 0, .int .u32 0, .int .u32 0, .int .u32 0, .int .u32 0] 105))); have HF4 := hide (HFn.out w4); have HS4 := hide hb.size; clear hb)
    | ((with_reducible refine atSt 105 ?_); refine wp_storeB (c := V.toArray) HV.out.1 HV.out.2.1 HV.out.2.2 HF4.out _ _ (by rfl) (by rfl) (by rfl) (by rfl) ?_; intro W7 hb7 ho7; have HB7 := hide (below_only1 HB4.out ho7 HS4.out); clear hb7 ho7))
  go_ret2
  exact ⟨rfl, HB7.out⟩
set_option maxRecDepth 20000 in
theorem give_stop (w : World) (v : Option Addr) (V : List Value) (E : Int) (h : FcK w v V E) (he : E ≠ 0) (n : Int) : Calls Tryz.prog 42 #[.pointer v, .int .i64 n] w fun e w' => e = .returned (.int .i64 E) ∧ Below w.heap.size w w' := by
  have HO := hide (firstToChange_e w v V E h)
  have HV := hide (V_ofC h)
  have he0 : (E == 0) = false := by simpa using he
  have HFn := hide fst_new
  clear h
  go_enter Tryz.func42, Tryz.ntmps42
  go_wp2_with (first
    | (go_at_call 113; (with_reducible refine Calls.mono HO.out ?_); rintro e w4 ⟨rfl, hb⟩; have HB4 := hide (below_trans hb (below_alloc w4 (.cells #[.int .u32 0, .int .u32 0, .int .u32 0, .int .u32 0, .int .u32 0, .int .u32 0, .int .u32 0, .int .u32 0, .int .u32 0] 105))); have HF4 := hide (HFn.out w4); have HS4 := hide hb.size; clear hb)
    | ((with_reducible refine atSt 105 ?_); refine wp_storeB (c := V.toArray) HV.out.1 HV.out.2.1 HV.out.2.2 HF4.out _ _ (by rfl) (by rfl) (by rfl) (by rfl) ?_; intro W7 hb7 ho7; have HB7 := hide (below_only1 HB4.out ho7 HS4.out); clear hb7 ho7))
  go_ret
  exact ⟨rfl, HB7.out⟩
set_option maxRecDepth 20000 in
theorem laid_e (w : World) (v : Option Addr) (V : List Value) (E : Int) (h : FoK w v V E) : Calls Tryz.prog 220 #[.pointer v] w fun e w' => e = .returned (.int .i64 E) ∧ Below w.heap.size w w' := by
  have HO := hide (firstOf_e w v V E h)
  have HV := hide (V_of h)
  have HFn := hide fst_new
  clear h
  go_enter Tryz.func220, Tryz.ntmps220
  go_wp2_with (first
    | (go_at_call 50; (with_reducible refine Calls.mono HO.out ?_); rintro e w4 ⟨rfl, hb⟩; have HB4 := hide (below_trans hb (below_alloc w4 (.cells #[.int .u32 0, .int .u32 0, .int .u32 0, .int .u32 0, .int .u32 0, .int .u32 0, .int .u32 0, .int .u32 0, .int .u32 0] 105))); have HF4 := hide (HFn.out w4); have HS4 := hide hb.size; have HB3 := hide hb; clear hb)
    | ((with_reducible refine atSt 105 ?_); refine wp_storeB (c := V.toArray) HV.out.1 HV.out.2.1 HV.out.2.2 HF4.out _ _ (by rfl) (by rfl) (by rfl) (by rfl) ?_; intro W7 hb7 ho7; have HB3 := hide (below_only1 HB4.out ho7 HS4.out); clear hb7 ho7))
  go_ret
  exact ⟨rfl, HB3.out⟩
theorem lay_stop (w : World) (v : Option Addr) (E : Int) (h : ChK w v E) (he : E ≠ 0) : Calls Tryz.prog 35 #[.pointer v] w fun e w' => e = .returned (.int .i64 E) ∧ Below w.heap.size w w' := by
  have HM := hide (smayChange_e w v E h h.ne2)
  have he0 : (E == 0) = false := by simpa using he
  clear h
  go_enter Tryz.func35, Tryz.ntmps35
  go_wp2_with (first
    | (go_at_call 95; (with_reducible refine Calls.mono HM.out ?_); rintro e w4 ⟨rfl, hb⟩; have HB4 := hide hb; clear hb))
  go_ret
  exact ⟨rfl, HB4.out⟩
theorem lay_busy (w : World) (t pm n : Nat) {P : Nat → List UInt8} {K : Nat} (h : Tr sv w t pm n P K true) (hn : 1 ≤ n) : Calls Tryz.prog 35 #[.pointer (some ⟨t, 0, none⟩)] w fun e w' => e = .returned (.int .i64 6) ∧ Below w.heap.size w w' := by
  have HM := hide (smayChange_e w _ 0 h.chK (by decide))
  have HC := hide (fun X (hb : Below w.heap.size w X) => count_e X t pm n (h.later hb))
  have hl : (0 : Int) < (n : Int) := by omega
  clear h
  go_enter Tryz.func35, Tryz.ntmps35
  go_wp2_with (first
    | (go_at_call 95; (with_reducible refine Calls.mono HM.out ?_); rintro e w4 ⟨rfl, hb⟩; have HB4 := hide hb; clear hb)
    | (go_at_call 18; (with_reducible refine Calls.mono (HC.out _ HB4.out) ?_); rintro e w5 ⟨rfl, hb⟩; have HB5 := hide (below_trans HB4.out hb); clear hb))
  go_ret
  exact ⟨rfl, HB5.out⟩
set_option maxRecDepth 20000 in
theorem lay_ok (w : World) (t pm : Nat) {P : Nat → List UInt8} {K : Nat} (h : Tr sv w t pm 0 P K true) (hK : K ≤ 100000) : Calls Tryz.prog 35 #[.pointer (some ⟨t, 0, none⟩)] w fun e w' => e = .returned (.int .i64 0) ∧ Tr sv w' t pm 1 (upP P 1 (firstL 0 zN)) (K + 1) true ∧ Only [t, pm] w w' := by
  have HM := hide (smayChange_e w _ 0 h.chK (by decide))
  have HC := hide (fun X (hb : Below w.heap.size w X) => count_e X t pm 0 (h.later hb))
  have HP := hide (fun X (hb : Below w.heap.size w X) => (sput_e X _ 0 (by omega) zN (fun i => by unfold zN; omega) 0 _ (PtK.inn (k := 1) (h.later hb) (Nat.le_refl _) (by omega) (by omega) hK)).mono (fun e w' hh => (And.intro hh.1 (And.intro hh.2.1 (Only.after_below hb hh.2.2)) : e = .returned (.int .i64 0) ∧ Tr sv w' t pm (max 0 1) (upP P 1 (firstL 0 zN)) (K + 1) true ∧ Only [t, pm] w w')))
  rw [show max 0 1 = 1 from rfl] at HP
  have hfz : ∀ N : Nat → Nat, N = zN → (fstL 0 N).toArray = #[.int .u32 0, .int .u32 0, .int .u32 0, .int .u32 0, .int .u32 0, .int .u32 0, .int .u32 0, .int .u32 0, .int .u32 0] := fun N h => by rw [h]; rfl
  rw [hfz zN rfl] at HP
  clear h hfz
  go_enter Tryz.func35, Tryz.ntmps35
  go_wp2_with (first
    | (go_at_call 95; (with_reducible refine Calls.mono HM.out ?_); rintro e w4 ⟨rfl, hb⟩; have HB4 := hide hb; clear hb)
    | (go_at_call 18; (with_reducible refine Calls.mono (HC.out _ HB4.out) ?_); rintro e w5 ⟨rfl, hb⟩; have HB5 := hide (below_trans HB4.out hb); clear hb)
    | (go_at_call 96; (with_reducible refine Calls.mono (HP.out _ HB5.out) ?_); rintro e w6 ⟨rfl, hb⟩; have HB6 := hide hb; clear hb))
  go_ret
  exact ⟨rfl, HB6.out⟩
end Go.Proofs.YthgclfhfipfknaaGreat
