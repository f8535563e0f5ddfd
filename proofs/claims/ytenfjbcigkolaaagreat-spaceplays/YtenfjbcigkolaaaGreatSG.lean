/- Package space: the first page of a transaction; laid or not; its numbers. -/
import Derived.Test.YtenfjbcigkolaaaGreatSF
namespace Go.Proofs.YtenfjbcigkolaaaGreat
variable {sv : Value}
open Go.ChangeShapes Go.WideShapes Go.ChangeAt Go.RowKit Go.Maps
set_option linter.unusedVariables false

theorem read_any (w : World) (l : List UInt8) (hl : l.length = 256) : Calls Tryz.prog 135 #[.agg (bc l)] w fun e w' => e = .returned (.tuple #[.agg (rdV l).toArray, .int .i64 (rdE l)]) ∧ Below w.heap.size w w' := by
  by_cases h : kindV l = 0 ∧ cntV l = 9
  · exact read_cells w l hl h.1 h.2
  · have hn : ¬ fok l := fun hf => h ⟨hf.1, hf.2.1⟩
    rw [show rdV l = fstL 0 zN from if_neg hn, show rdE l = 8 from if_neg hn]
    exact read_kind w l hl h
theorem rdV_length (l : List UInt8) : (rdV l).length = 9 := by unfold rdV; split <;> exact fstL_length _ _
theorem rdV_size (l : List UInt8) : (Tryz.prog.info? 151).map (·.size) = some (rdV l).toArray.size := by rw [List.size_toArray, rdV_length]; exact infoF
theorem rdV_one (l : List UInt8) : (rdV l).toArray.all (·.oneCell') = true := by unfold rdV; split <;> exact fstL_one _ _
/-- What firstOf tells. -/
inductive FoK (w : World) : Option Addr → List Value → Int → Prop where
  | stop {v : Option Addr} {e : Int} (h : GoK w v e) (he : e ≠ 0) : FoK w v (fstL 0 zN) e
  | none {sv : Value} {t pm : Nat} {P : Nat → List UInt8} {K : Nat} {wr : Bool} (h : Tr sv w t pm 0 P K wr) : FoK w (some ⟨t, 0, Option.none⟩) (fstL 0 zN) 8
  | page {sv : Value} {t pm n : Nat} {P : Nat → List UInt8} {K : Nat} {wr : Bool} (h : Tr sv w t pm n P K wr) (hn : 1 ≤ n) : FoK w (some ⟨t, 0, Option.none⟩) (rdV (P 1)) (rdE (P 1))
theorem FoK.later {w w' : World} {v : Option Addr} {V : List Value} {e : Int} (h : FoK w v V e) (hb : Below w.heap.size w w') : FoK w' v V e := by
  cases h with
  | stop h he => exact .stop (h.later hb) he
  | none h => exact .none (h.later hb)
  | page h hn => exact .page (h.later hb) hn
theorem strict_alloc {w w4 : World} {o : Obj} (hb : Below (w.alloc o).heap.size (w.alloc o) w4) : w.heap.size < w4.heap.size := by have := hb.size; simp at this; omega
theorem zero_one : (fstL 0 zN).toArray.all (·.oneCell') = true := fstL_one 0 zN
set_option maxRecDepth 20000 in
set_option maxHeartbeats 2000000 in
theorem firstOf_e (w : World) (v : Option Addr) (V : List Value) (E : Int) (h : FoK w v V E) : Calls Tryz.prog 93 #[.pointer v] w fun e w' => e = .returned (.tuple #[.agg V.toArray, .int .i64 E]) ∧ Below w.heap.size w w' := by
  have HF0 := hide (fst_new w)
  have HB0 := hide (below_alloc w (.cells #[.int .u32 0, .int .u32 0, .int .u32 0, .int .u32 0, .int .u32 0, .int .u32 0, .int .u32 0, .int .u32 0, .int .u32 0] 151))
  have HI0 := hide (sizeF 0 zN)
  have hz := zeroP
  have h' := h.later HB0.out
  cases h with
  | stop h he =>
    have HP := hide (page_e _ v 1 zs E (.stop (h.later HB0.out) he))
    have h17 := h.cases
    rcases (show E = 1 ∨ E = 7 by omega) with rfl | rfl
    all_goals
      clear h h' he h17
      go_enter Tryz.func93, Tryz.ntmps93
      go_wp2_with (first
        | (go_at_call 12; (with_reducible refine Calls.mono HP.out ?_); rintro e w4 ⟨rfl, hb⟩; have HB4 := hide (below_trans HB0.out (below_trans hb (below_alloc w4 (.cells (bc zs) 32)))); have HF4 := hide (Blk.later HF0.out (below_trans hb (below_alloc w4 (.cells (bc zs) 32)))); have HN4 := hide (PAt.new w4 zs); have HS4 := hide (strict_alloc hb); clear hb)
        | ((with_reducible refine atSt 32 ?_); refine wp_storeP zs_length zs_length HN4.out _ _ (by rfl) (by rfl) (by rfl) (by rfl) ?_; intro W5 hp hb hk; have HB5 := hide (hb _ _ HB4.out (Nat.le_of_lt HS4.out)); have HF5 := hide ((hk w.heap.size (Nat.ne_of_lt HS4.out)).trans HF4.out); clear hp hb hk)
        | ((with_reducible refine atSt 151 ?_); refine wp_storeB (c := (fstL 0 zN).toArray) HI0.out rfl zero_one HF5.out _ _ (by rfl) (by rfl) (by rfl) (by rfl) ?_; intro W6 hb6 ho6; have HF6 := hide hb6; have HB6 := hide (below_only1 HB5.out ho6 (Nat.le_refl _)); clear hb6 ho6))
      refine ret_blk2 (c := (fstL 0 zN).toArray) HI0.out uF Tryz.results93 (by rfl) (by rfl) HF6.out ?_
      exact ⟨rfl, HB6.out⟩
  | none h =>
    have HP := hide (page_e _ _ 1 zs 4 (.out (h.later HB0.out) (.inr (by omega))))
    clear h h'
    go_enter Tryz.func93, Tryz.ntmps93
    go_wp2_with (first
      | (go_at_call 12; (with_reducible refine Calls.mono HP.out ?_); rintro e w4 ⟨rfl, hb⟩; have HB4 := hide (below_trans HB0.out (below_trans hb (below_alloc w4 (.cells (bc zs) 32)))); have HF4 := hide (Blk.later HF0.out (below_trans hb (below_alloc w4 (.cells (bc zs) 32)))); have HN4 := hide (PAt.new w4 zs); have HS4 := hide (strict_alloc hb); clear hb)
      | ((with_reducible refine atSt 32 ?_); refine wp_storeP zs_length zs_length HN4.out _ _ (by rfl) (by rfl) (by rfl) (by rfl) ?_; intro W5 hp hb hk; have HB5 := hide (hb _ _ HB4.out (Nat.le_of_lt HS4.out)); have HF5 := hide ((hk w.heap.size (Nat.ne_of_lt HS4.out)).trans HF4.out); clear hp hb hk)
      | ((with_reducible refine atSt 151 ?_); refine wp_storeB (c := (fstL 0 zN).toArray) HI0.out rfl zero_one HF5.out _ _ (by rfl) (by rfl) (by rfl) (by rfl) ?_; intro W6 hb6 ho6; have HF6 := hide hb6; have HB6 := hide (below_only1 HB5.out ho6 (Nat.le_refl _)); clear hb6 ho6))
    refine ret_blk2 (c := (fstL 0 zN).toArray) HI0.out uF Tryz.results93 (by rfl) (by rfl) HF6.out ?_
    exact ⟨rfl, HB6.out⟩
  | @page _ t pm n P K wr h hn =>
    have HP := hide (page_e _ _ 1 (P 1) 0 (PgK.inn (k := 1) (h.later HB0.out) (Nat.le_refl _) hn))
    have HL := hide (h.len 1)
    have HR := hide (fun V => read_any V (P 1) (h.len 1))
    have HIr := hide (rdV_size (P 1))
    have HOr := hide (rdV_one (P 1))
    have HSr : Hid ((rdV (P 1)).toArray.size = (fstL 0 zN).toArray.size) := by show _ = _; rw [List.size_toArray, List.size_toArray, rdV_length, fstL_length]
    generalize P 1 = l at *
    clear h h' hn
    go_enter Tryz.func93, Tryz.ntmps93
    go_wp2_with (first
      | (go_at_call 12; (with_reducible refine Calls.mono HP.out ?_); rintro e w4 ⟨rfl, hb⟩; have HB4 := hide (below_trans HB0.out (below_trans hb (below_alloc w4 (.cells (bc zs) 32)))); have HF4 := hide (Blk.later HF0.out (below_trans hb (below_alloc w4 (.cells (bc zs) 32)))); have HN4 := hide (PAt.new w4 zs); have HS4 := hide (strict_alloc hb); clear hb)
      | ((with_reducible refine atSt 32 ?_); refine wp_storeP HL.out zs_length HN4.out _ _ (by rfl) (by rfl) (by rfl) (by rfl) ?_; intro W5 hp hb hk; have HP5 := hide hp; have HB5 := hide (hb _ _ HB4.out (Nat.le_of_lt HS4.out)); have HF5 := hide ((hk w.heap.size (Nat.ne_of_lt HS4.out)).trans HF4.out); clear hp hb hk)
      | ((with_reducible refine atLd 32 ?_); refine wp_loadP HL.out HP5.out _ (by rfl) (by rfl) (by rfl) ?_)
      | (go_at_call 135; (with_reducible refine Calls.mono (HR.out _) ?_); rintro e w6 ⟨rfl, hb⟩; have HB6 := hide (below_trans HB5.out hb); have HF6 := hide (Blk.later HF5.out hb); clear hb)
      | ((with_reducible refine atSt 151 ?_); refine wp_storeB (c := (rdV l).toArray) HIr.out HSr.out HOr.out HF6.out _ _ (by rfl) (by rfl) (by rfl) (by rfl) ?_; intro W7 hb7 ho7; have HF7 := hide hb7; have HB7 := hide (below_only1 HB6.out ho7 (Nat.le_refl _)); clear hb7 ho7))
    refine ret_blk2 (c := (rdV l).toArray) HIr.out uF Tryz.results93 (by rfl) (by rfl) HF7.out ?_
    exact ⟨rfl, HB7.out⟩
end Go.Proofs.YtenfjbcigkolaaaGreat
