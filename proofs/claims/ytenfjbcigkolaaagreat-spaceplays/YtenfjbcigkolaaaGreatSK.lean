/- Package space: Take; what Get and Give refuse. -/
import Derived.Test.YtenfjbcigkolaaaGreatSJ
namespace Go.Proofs.YtenfjbcigkolaaaGreat
variable {sv : Value}
open Go.ChangeShapes Go.WideShapes Go.ChangeAt Go.RowKit Go.Maps
set_option linter.unusedVariables false

theorem end_e (w : World) (a b : Int) : Calls Tryz.prog 97 #[.agg #[.int .i64 a, .int .u32 b]] w fun e w' => e = .returned (.bool (a == 0)) ∧ Below w.heap.size w w' := by
  have HB := hide (below_alloc w (.cells #[.int .i64 a, .int .u32 b] 155))
  have c0 : (w.alloc (.cells #[.int .i64 a, .int .u32 b] 155)).cell? ⟨w.heap.size, 0, none⟩ = some (.int .i64 a) := (Blk.new w #[.int .i64 a, .int .u32 b] 155).cell 0
  go_enter Tryz.func97, Tryz.ntmps97
  go_wp2
  go_ret
  exact ⟨rfl, HB.out⟩
theorem more_e (w : World) (t pm n : Nat) {P : Nat → List UInt8} {K : Nat} (h : Tr sv w t pm n P K true) (hK : K ≤ 100000) (hn : n < 4096) : Calls Tryz.prog 98 #[.pointer (some ⟨t, 0, none⟩)] w fun e w' => e = .returned (.tuple #[.int .i64 ((n : Int) + 1), .int .i64 0]) ∧ Tr sv w' t pm (n + 1) (upP P (n + 1) (freeL 0)) (K + 1) true ∧ Only [t, pm] w w' := by
  have HC := hide (count_e w t pm n h)
  have HF := hide (fun V => freePage_e V 0 (by omega))
  have HP := hide (fun X (hb : Below w.heap.size w X) => (put_e X _ ((n + 1 : Nat) : Int) (freeL 0) (freeL_length 0) 0 _ (PtK.inn (k := n + 1) (h.later hb) (by omega) (Nat.le_refl _) (by omega) hK)).mono (fun e w' hh => (And.intro hh.1 (And.intro hh.2.1 (Only.after_below hb hh.2.2)) : e = .returned (.int .i64 0) ∧ Tr sv w' t pm (max n (n + 1)) (upP P (n + 1) (freeL 0)) (K + 1) true ∧ Only [t, pm] w w')))
  rw [show max n (n + 1) = n + 1 by omega, show (((n + 1 : Nat)) : Int) = (n : Int) + 1 by omega] at HP
  have hw : IntKind.i64.wrap ((n : Int) + 1) = (n : Int) + 1 := by rw [IntKind.wrap_i64]; omega
  generalize freeL 0 = fl at *
  clear h
  go_enter Tryz.func98, Tryz.ntmps98
  go_wp2_with (first
    | (go_at_call 21; (with_reducible refine Calls.mono HC.out ?_); rintro e w4 ⟨rfl, hb⟩; have HB4 := hide hb; clear hb)
    | (go_at_call 101; (with_reducible refine Calls.mono (HF.out _) ?_); rintro e w5 ⟨rfl, hb⟩; have HB5 := hide (below_trans HB4.out hb); clear hb)
    | (go_at_call 15; (with_reducible refine Calls.mono (HP.out _ HB5.out) ?_); rintro e w6 ⟨rfl, hb⟩; have HB6 := hide hb; clear hb))
  go_ret2
  exact ⟨rfl, HB6.out⟩
/-- The first page of a transaction that is laid: its link and its numbers. -/
structure Ld (sv : Value) (w : World) (t pm n : Nat) (P : Nat → List UInt8) (K L : Nat) (N : Nat → Nat) : Prop where
  tr : Tr sv w t pm n P K true
  one : 1 ≤ n
  fst : rdV (P 1) = fstL L N ∧ rdE (P 1) = 0
  lk : L < 4294967296
  nm : ∀ i, N i < 4294967296
theorem fst_of {P : Nat → List UInt8} {L : Nat} {N : Nat → Nat} (h : P 1 = firstL L N) (hL : L < 4294967296) (hN : ∀ i, N i < 4294967296) : rdV (P 1) = fstL L N ∧ rdE (P 1) = 0 := by
  rw [h]; exact first_read L hL N hN
theorem Ld.later {w w' : World} {t pm n : Nat} {P : Nat → List UInt8} {K L : Nat} {N : Nat → Nat} (h : Ld sv w t pm n P K L N) (hb : Below w.heap.size w w') : Ld sv w' t pm n P K L N := ⟨h.tr.later hb, h.one, h.fst, h.lk, h.nm⟩
theorem Ld.fo {w : World} {t pm n : Nat} {P : Nat → List UInt8} {K L : Nat} {N : Nat → Nat} (h : Ld sv w t pm n P K L N) : FoK w (some ⟨t, 0, none⟩) (fstL L N) 0 := by
  have := FoK.page h.tr h.one
  rw [h.fst.1, h.fst.2] at this
  exact this
theorem Ld.fc {w : World} {t pm n : Nat} {P : Nat → List UInt8} {K L : Nat} {N : Nat → Nat} (h : Ld sv w t pm n P K L N) : FcK w (some ⟨t, 0, none⟩) (fstL L N) 0 := .on h.tr.chK h.fo
set_option maxRecDepth 20000 in
set_option maxHeartbeats 2000000 in
theorem take_more (w : World) (t pm n : Nat) {P : Nat → List UInt8} {K : Nat} {N : Nat → Nat} (h : Ld sv w t pm n P K 0 N) (hK : K ≤ 100000) (hn : n < 4096) : Calls Tryz.prog 38 #[.pointer (some ⟨t, 0, none⟩)] w fun e w' => e = .returned (.tuple #[.int .i64 ((n : Int) + 1), .int .i64 0]) ∧ Tr sv w' t pm (n + 1) (upP P (n + 1) (freeL 0)) (K + 1) true ∧ Only [t, pm] w w' := by
  have HF := hide (firstToChange_e w _ _ 0 h.fc)
  have HI := hide (sizeF 0 N)
  have HSz := hide (size_fst 0 0 N zN)
  have HOn := hide (fstL_one 0 N)
  have HFn := hide fst_new
  have HMe := hide (fun X (hb : Below w.heap.size w X) => meeting_e X t pm n (h.tr.later hb) 0)
  have HEn := hide mt_end
  have HEd := hide (fun V => end_e V 0 0)
  have HMo := hide (fun X (hb : Below w.heap.size w X) => (more_e X t pm n (h.tr.later hb) hK hn).mono (fun e w' hh => (And.intro hh.1 (And.intro hh.2.1 (Only.after_below hb hh.2.2)) : e = .returned (.tuple #[.int .i64 ((n : Int) + 1), .int .i64 0]) ∧ Tr sv w' t pm (n + 1) (upP P (n + 1) (freeL 0)) (K + 1) true ∧ Only [t, pm] w w')))
  have HIr := hide infoFr
  have HFr := hide (fun V => Blk.new V #[.int .i64 0, .int .u32 0] 155)
  clear h
  go_enter Tryz.func38, Tryz.ntmps38
  go_wp2_with (first
    | (go_at_call 95; (with_reducible refine Calls.mono HF.out ?_); rintro e w4 ⟨rfl, hb⟩; have HB4 := hide (below_trans hb (below_alloc w4 (.cells #[.int .u32 0, .int .u32 0, .int .u32 0, .int .u32 0, .int .u32 0, .int .u32 0, .int .u32 0, .int .u32 0, .int .u32 0] 151))); have HF4 := hide (HFn.out w4); have HS4 := hide hb.size; clear hb)
    | ((with_reducible refine atSt 151 ?_); refine wp_storeB (c := (fstL 0 N).toArray) HI.out HSz.out HOn.out HF4.out _ _ (by rfl) (by rfl) (by rfl) (by rfl) ?_; intro W5 hb5 ho5; have c5 := FstB.link hb5; have HB5 := hide (below_only1 HB4.out ho5 HS4.out); clear hb5 ho5)
    | (go_at_call 96; (with_reducible refine Calls.mono (HMe.out _ HB5.out) ?_); rintro e w6 ⟨A, M, C, B, rfl, hm, hb, _⟩; have HM6 := hide hm; have HB6 := hide (below_trans HB5.out hb); clear hm hb)
    | (go_at_call 136; (with_reducible refine Calls.mono (HEn.out _ _ _ _ _ _ _ _ HM6.out) ?_); rintro e w7 ⟨rfl, hb⟩; have HB7 := hide (below_trans HB6.out (below_trans hb (below_alloc w7 (.cells #[.int .i64 0, .int .u32 0] 155)))); have HS7 := hide (Nat.le_trans HB6.out.size hb.size); clear hb)
    | ((with_reducible refine atSt 155 ?_); refine wp_storeB (c := #[.int .i64 0, .int .u32 0]) HIr.out rfl (fr_one _ _) (HFr.out _) _ _ (by rfl) (by rfl) (by rfl) (by rfl) ?_; intro W8 hb8 ho8; have HF8 := hide hb8; have HB8 := hide (below_only1 HB7.out ho8 HS7.out); clear hb8 ho8)
    | ((with_reducible refine atLd 155 ?_); refine wp_loadB (c := #[.int .i64 0, .int .u32 0]) HIr.out uFr HF8.out _ (by rfl) (by rfl) (by rfl) ?_)
    | (go_at_call 97; (with_reducible refine Calls.mono (HEd.out _) ?_); rintro e w9 ⟨rfl, hb⟩; have HB9 := hide (below_trans HB8.out hb); clear hb)
    | (go_at_call 98; (with_reducible refine Calls.mono (HMo.out _ HB9.out) ?_); rintro e w10 ⟨rfl, hb⟩; have HB10 := hide hb; clear hb))
  go_ret2
  exact ⟨rfl, HB10.out⟩
set_option maxRecDepth 20000 in
theorem get_arg (w : World) (t pm n : Nat) {P : Nat → List UInt8} {K L : Nat} {N : Nat → Nat} (h : Ld sv w t pm n P K L N) (i : Int) (hi : isN i = false) : Calls Tryz.prog 36 #[.pointer (some ⟨t, 0, none⟩), .int .i64 i] w fun e w' => e = .returned (.tuple #[.int .u32 0, .int .i64 2]) ∧ Below w.heap.size w w' := by
  have HF := hide (firstOf_e w _ _ 0 h.fo)
  have HI := hide (sizeF L N)
  have HSz := hide (size_fst L 0 N zN)
  have HOn := hide (fstL_one L N)
  have HFn := hide fst_new
  have HIs := hide (fun V => isNumber_e V i)
  rw [hi] at HIs
  clear h hi
  go_enter Tryz.func36, Tryz.ntmps36
  go_wp2_with (first
    | (go_at_call 93; (with_reducible refine Calls.mono HF.out ?_); rintro e w4 ⟨rfl, hb⟩; have HB4 := hide (below_trans hb (below_alloc w4 (.cells #[.int .u32 0, .int .u32 0, .int .u32 0, .int .u32 0, .int .u32 0, .int .u32 0, .int .u32 0, .int .u32 0, .int .u32 0] 151))); have HF4 := hide (HFn.out w4); have HS4 := hide hb.size; clear hb)
    | ((with_reducible refine atSt 151 ?_); refine wp_storeB (c := (fstL L N).toArray) HI.out HSz.out HOn.out HF4.out _ _ (by rfl) (by rfl) (by rfl) (by rfl) ?_; intro W5 hb5 ho5; have HB5 := hide (below_only1 HB4.out ho5 HS4.out); clear hb5 ho5)
    | (go_at_call 94; (with_reducible refine Calls.mono (HIs.out _) ?_); rintro e w6 ⟨rfl, rfl⟩))
  go_ret2
  exact ⟨rfl, HB5.out⟩
set_option maxRecDepth 20000 in
theorem give_arg (w : World) (t pm n : Nat) {P : Nat → List UInt8} {K L : Nat} {N : Nat → Nat} (h : Ld sv w t pm n P K L N) (k : Int) (hk : mbF k (n : Int) = false) : Calls Tryz.prog 41 #[.pointer (some ⟨t, 0, none⟩), .int .i64 k] w fun e w' => e = .returned (.int .i64 2) ∧ Below w.heap.size w w' := by
  have HF := hide (firstToChange_e w _ _ 0 h.fc)
  have HI := hide (sizeF L N)
  have HSz := hide (size_fst L 0 N zN)
  have HOn := hide (fstL_one L N)
  have HFn := hide fst_new
  have HCt := hide (fun X (hb : Below w.heap.size w X) => count_e X t pm n (h.tr.later hb))
  have HMb := hide (fun V => mayBeFree_e V k (n : Int))
  rw [hk] at HMb
  clear h hk
  go_enter Tryz.func41, Tryz.ntmps41
  go_wp2_with (first
    | (go_at_call 95; (with_reducible refine Calls.mono HF.out ?_); rintro e w4 ⟨rfl, hb⟩; have HB4 := hide (below_trans hb (below_alloc w4 (.cells #[.int .u32 0, .int .u32 0, .int .u32 0, .int .u32 0, .int .u32 0, .int .u32 0, .int .u32 0, .int .u32 0, .int .u32 0] 151))); have HF4 := hide (HFn.out w4); have HS4 := hide hb.size; clear hb)
    | ((with_reducible refine atSt 151 ?_); refine wp_storeB (c := (fstL L N).toArray) HI.out HSz.out HOn.out HF4.out _ _ (by rfl) (by rfl) (by rfl) (by rfl) ?_; intro W5 hb5 ho5; have HB5 := hide (below_only1 HB4.out ho5 HS4.out); clear hb5 ho5)
    | (go_at_call 21; (with_reducible refine Calls.mono (HCt.out _ HB5.out) ?_); rintro e w6 ⟨rfl, hb⟩; have HB6 := hide (below_trans HB5.out hb); clear hb)
    | (go_at_call 99; (with_reducible refine Calls.mono (HMb.out _) ?_); rintro e w7 ⟨rfl, rfl⟩))
  go_ret
  exact ⟨rfl, HB6.out⟩
end Go.Proofs.YtenfjbcigkolaaaGreat
