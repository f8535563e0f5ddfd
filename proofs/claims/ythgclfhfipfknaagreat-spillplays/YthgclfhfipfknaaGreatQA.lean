/- Package space: Take; what Get and Give refuse. -/
/- Package space: a free page is taken. -/
import Derived.Test.YthgclfhfipfknaaGreatSJ
namespace Go.Proofs.YthgclfhfipfknaaGreat
variable {sv : Value}
open Go.ChangeShapes Go.WideShapes Go.ChangeAt Go.RowKit Go.Maps
set_option linter.unusedVariables false

theorem end_e (w : World) (a b : Int) : Calls Tryz.prog 52 #[.agg #[.int .i64 a, .int .u32 b]] w fun e w' => e = .returned (.bool (a == 0)) ∧ Below w.heap.size w w' := by
  have HB := hide (below_alloc w (.cells #[.int .i64 a, .int .u32 b] 111))
  have c0 : (w.alloc (.cells #[.int .i64 a, .int .u32 b] 111)).cell? ⟨w.heap.size, 0, none⟩ = some (.int .i64 a) := (Blk.new w #[.int .i64 a, .int .u32 b] 111).cell 0
  go_enter Tryz.func52, Tryz.ntmps52
  go_wp2
  go_ret
  exact ⟨rfl, HB.out⟩
theorem more_e (w : World) (t pm n : Nat) {P : Nat → List UInt8} {K : Nat} (h : Tr sv w t pm n P K true) (hK : K ≤ 100000) (hn : n < 4096) : Calls Tryz.prog 197 #[.pointer (some ⟨t, 0, none⟩)] w fun e w' => e = .returned (.tuple #[.int .i64 ((n : Int) + 1), .int .i64 0]) ∧ Tr sv w' t pm (n + 1) (upP P (n + 1) (freeL 0)) (K + 1) true ∧ Only [t, pm] w w' := by
  have HC := hide (count_e w t pm n h)
  have HF := hide (fun V => freePage_e V 0 (by omega))
  have HP := hide (fun X (hb : Below w.heap.size w X) => (put_e X _ ((n + 1 : Nat) : Int) (freeL 0) (freeL_length 0) 0 _ (PtK.inn (k := n + 1) (h.later hb) (by omega) (Nat.le_refl _) (by omega) hK)).mono (fun e w' hh => (And.intro hh.1 (And.intro hh.2.1 (Only.after_below hb hh.2.2)) : e = .returned (.int .i64 0) ∧ Tr sv w' t pm (max n (n + 1)) (upP P (n + 1) (freeL 0)) (K + 1) true ∧ Only [t, pm] w w')))
  rw [show max n (n + 1) = n + 1 by omega, show (((n + 1 : Nat)) : Int) = (n : Int) + 1 by omega] at HP
  have hw : IntKind.i64.wrap ((n : Int) + 1) = (n : Int) + 1 := by rw [IntKind.wrap_i64]; omega
  generalize freeL 0 = fl at *
  clear h
  go_enter Tryz.func197, Tryz.ntmps197
  go_wp2_with (first
    | (go_at_call 18; (with_reducible refine Calls.mono HC.out ?_); rintro e w4 ⟨rfl, hb⟩; have HB4 := hide hb; clear hb)
    | (go_at_call 116; (with_reducible refine Calls.mono (HF.out _) ?_); rintro e w5 ⟨rfl, hb⟩; have HB5 := hide (below_trans HB4.out hb); clear hb)
    | (go_at_call 20; (with_reducible refine Calls.mono (HP.out _ HB5.out) ?_); rintro e w6 ⟨rfl, hb⟩; have HB6 := hide hb; clear hb))
  go_ret2
  exact ⟨rfl, HB6.out⟩
/-- The first page of a transaction that is laid: its link and its numbers. -/
structure Ld (sv : Value) (w : World) (t pm n : Nat) (P : Nat → List UInt8) (K L : Nat) (N : Nat → Nat) : Prop where
  tr : Tr sv w t pm n P K true
  one : 1 ≤ n
  fst : rdV (P 1) = fstL L N ∧ rdE (P 1) = 0
  lk : L < 4294967296
  nm : ∀ i, N i < 4294967296
theorem fst_of {P : Nat → List UInt8} {L : Nat} {N : Nat → Nat} (h : P 1 = firstL L N) (hL : L < 4294967296) (hN : ∀ i, N i < 4294967296) : rdV (P 1) = fstL L N ∧ rdE (P 1) = 0 := by
  rw [h]; exact first_read L hL N hN
theorem Ld.later {w w' : World} {t pm n : Nat} {P : Nat → List UInt8} {K L : Nat} {N : Nat → Nat} (h : Ld sv w t pm n P K L N) (hb : Below w.heap.size w w') : Ld sv w' t pm n P K L N := ⟨h.tr.later hb, h.one, h.fst, h.lk, h.nm⟩
theorem Ld.fo {w : World} {t pm n : Nat} {P : Nat → List UInt8} {K L : Nat} {N : Nat → Nat} (h : Ld sv w t pm n P K L N) : FoK w (some ⟨t, 0, none⟩) (fstL L N) 0 := by
  have := FoK.page h.tr h.one
  rw [h.fst.1, h.fst.2] at this
  exact this
theorem Ld.fc {w : World} {t pm n : Nat} {P : Nat → List UInt8} {K L : Nat} {N : Nat → Nat} (h : Ld sv w t pm n P K L N) : FcK w (some ⟨t, 0, none⟩) (fstL L N) 0 := .on h.tr.chK h.fo
set_option maxRecDepth 20000 in
set_option maxHeartbeats 2000000 in
theorem take_more (w : World) (t pm n : Nat) {P : Nat → List UInt8} {K : Nat} {N : Nat → Nat} (h : Ld sv w t pm n P K 0 N) (hK : K ≤ 100000) (hn : n < 4096) : Calls Tryz.prog 119 #[.pointer (some ⟨t, 0, none⟩)] w fun e w' => e = .returned (.tuple #[.int .i64 ((n : Int) + 1), .int .i64 0]) ∧ Tr sv w' t pm (n + 1) (upP P (n + 1) (freeL 0)) (K + 1) true ∧ Only [t, pm] w w' := by
  have HF := hide (firstToChange_e w _ _ 0 h.fc)
  have HI := hide (sizeF 0 N)
  have HSz := hide (size_fst 0 0 N zN)
  have HOn := hide (fstL_one 0 N)
  have HFn := hide fst_new
  have HMe := hide (fun X (hb : Below w.heap.size w X) => meeting_e X t pm n (h.tr.later hb) 0)
  have HEn := hide mt_end
  have HEd := hide (fun V => end_e V 0 0)
  have HMo := hide (fun X (hb : Below w.heap.size w X) => (more_e X t pm n (h.tr.later hb) hK hn).mono (fun e w' hh => (And.intro hh.1 (And.intro hh.2.1 (Only.after_below hb hh.2.2)) : e = .returned (.tuple #[.int .i64 ((n : Int) + 1), .int .i64 0]) ∧ Tr sv w' t pm (n + 1) (upP P (n + 1) (freeL 0)) (K + 1) true ∧ Only [t, pm] w w')))
  have HIr := hide infoFr
  have HFr := hide (fun V => Blk.new V #[.int .i64 0, .int .u32 0] 111)
  clear h
  go_enter Tryz.func119, Tryz.ntmps119
  go_wp2_with (first
    | (go_at_call 113; (with_reducible refine Calls.mono HF.out ?_); rintro e w4 ⟨rfl, hb⟩; have HB4 := hide (below_trans hb (below_alloc w4 (.cells #[.int .u32 0, .int .u32 0, .int .u32 0, .int .u32 0, .int .u32 0, .int .u32 0, .int .u32 0, .int .u32 0, .int .u32 0] 105))); have HF4 := hide (HFn.out w4); have HS4 := hide hb.size; clear hb)
    | ((with_reducible refine atSt 105 ?_); refine wp_storeB (c := (fstL 0 N).toArray) HI.out HSz.out HOn.out HF4.out _ _ (by rfl) (by rfl) (by rfl) (by rfl) ?_; intro W5 hb5 ho5; have c5 := FstB.link hb5; have HB5 := hide (below_only1 HB4.out ho5 HS4.out); clear hb5 ho5)
    | (go_at_call 51; (with_reducible refine Calls.mono (HMe.out _ HB5.out) ?_); rintro e w6 ⟨A, M, C, B, rfl, hm, hb, _⟩; have HM6 := hide hm; have HB6 := hide (below_trans HB5.out hb); clear hm hb)
    | (go_at_call 122; (with_reducible refine Calls.mono (HEn.out _ _ _ _ _ _ _ _ HM6.out) ?_); rintro e w7 ⟨rfl, hb⟩; have HB7 := hide (below_trans HB6.out (below_trans hb (below_alloc w7 (.cells #[.int .i64 0, .int .u32 0] 111)))); have HS7 := hide (Nat.le_trans HB6.out.size hb.size); clear hb)
    | ((with_reducible refine atSt 111 ?_); refine wp_storeB (c := #[.int .i64 0, .int .u32 0]) HIr.out rfl (fr_one _ _) (HFr.out _) _ _ (by rfl) (by rfl) (by rfl) (by rfl) ?_; intro W8 hb8 ho8; have HF8 := hide hb8; have HB8 := hide (below_only1 HB7.out ho8 HS7.out); clear hb8 ho8)
    | ((with_reducible refine atLd 111 ?_); refine wp_loadB (c := #[.int .i64 0, .int .u32 0]) HIr.out uFr HF8.out _ (by rfl) (by rfl) (by rfl) ?_)
    | (go_at_call 52; (with_reducible refine Calls.mono (HEd.out _) ?_); rintro e w9 ⟨rfl, hb⟩; have HB9 := hide (below_trans HB8.out hb); clear hb)
    | (go_at_call 197; (with_reducible refine Calls.mono (HMo.out _ HB9.out) ?_); rintro e w10 ⟨rfl, hb⟩; have HB10 := hide hb; clear hb))
  go_ret2
  exact ⟨rfl, HB10.out⟩
set_option maxRecDepth 20000 in
theorem give_arg (w : World) (t pm n : Nat) {P : Nat → List UInt8} {K L : Nat} {N : Nat → Nat} (h : Ld sv w t pm n P K L N) (k : Int) (hk : mbF k (n : Int) = false) : Calls Tryz.prog 42 #[.pointer (some ⟨t, 0, none⟩), .int .i64 k] w fun e w' => e = .returned (.int .i64 2) ∧ Below w.heap.size w w' := by
  have HF := hide (firstToChange_e w _ _ 0 h.fc)
  have HI := hide (sizeF L N)
  have HSz := hide (size_fst L 0 N zN)
  have HOn := hide (fstL_one L N)
  have HFn := hide fst_new
  have HCt := hide (fun X (hb : Below w.heap.size w X) => count_e X t pm n (h.tr.later hb))
  have HMb := hide (fun V => mayBeFree_e V k (n : Int))
  rw [hk] at HMb
  clear h hk
  go_enter Tryz.func42, Tryz.ntmps42
  go_wp2_with (first
    | (go_at_call 113; (with_reducible refine Calls.mono HF.out ?_); rintro e w4 ⟨rfl, hb⟩; have HB4 := hide (below_trans hb (below_alloc w4 (.cells #[.int .u32 0, .int .u32 0, .int .u32 0, .int .u32 0, .int .u32 0, .int .u32 0, .int .u32 0, .int .u32 0, .int .u32 0] 105))); have HF4 := hide (HFn.out w4); have HS4 := hide hb.size; clear hb)
    | ((with_reducible refine atSt 105 ?_); refine wp_storeB (c := (fstL L N).toArray) HI.out HSz.out HOn.out HF4.out _ _ (by rfl) (by rfl) (by rfl) (by rfl) ?_; intro W5 hb5 ho5; have HB5 := hide (below_only1 HB4.out ho5 HS4.out); clear hb5 ho5)
    | (go_at_call 18; (with_reducible refine Calls.mono (HCt.out _ HB5.out) ?_); rintro e w6 ⟨rfl, hb⟩; have HB6 := hide (below_trans HB5.out hb); clear hb)
    | (go_at_call 114; (with_reducible refine Calls.mono (HMb.out _) ?_); rintro e w7 ⟨rfl, rfl⟩))
  go_ret
  exact ⟨rfl, HB6.out⟩
end Go.Proofs.YthgclfhfipfknaaGreat

namespace Go.Proofs.YthgclfhfipfknaaGreat
variable {sv : Value}
open Go.ChangeShapes Go.WideShapes Go.ChangeAt Go.RowKit Go.Maps
set_option linter.unusedVariables false

theorem fst_link {w : World} {g L : Nat} {N : Nat → Nat} (h : FstB w g L N) (X : Nat) : FstB (w.setCell ⟨g, 0, none⟩ (.int .u32 (X : Int))) g X N := Blk.set h 0 _
theorem below_up' {w a : World} (h : Below w.heap.size w a) {g : Nat} (hg : w.heap.size ≤ g) (v : Value) : Below w.heap.size w (a.setCell ⟨g, 0, none⟩ v) := h.setCell (p := ⟨g, 0, none⟩) hg v
theorem two_in {B a b : Nat} (h1 : B ≤ a) (h2 : B ≤ b) : ∀ k ∈ [a, b], B ≤ k := fun k hk => by simp at hk; omega
theorem tr_lt {w : World} {t pm n : Nat} {P : Nat → List UInt8} {K : Nat} {wr : Bool} (h : Tr sv w t pm n P K wr) : t < w.heap.size ∧ pm < w.heap.size := by
  obtain ⟨⟨j, d, mb, l, room, L, cn, h1, h2, h3⟩, ⟨D, ⟨es, cl, he, q1, q2, q3⟩, q4, q5⟩, h5, h6⟩ := h
  exact ⟨Blk.lt h2, (Array.getElem?_eq_some_iff.1 he).1⟩
theorem not_lt2 {g a b : Nat} (h1 : a < g) (h2 : b < g) : g ∉ [a, b] := fun hk => by simp at hk; omega
theorem not_two {g a b : Nat} (h1 : g < a) (h2 : g < b) : g ∉ [a, b] := fun hk => by simp at hk; omega
set_option maxRecDepth 20000 in
set_option maxHeartbeats 2000000 in
theorem take_free (w : World) (t pm n : Nat) {P : Nat → List UInt8} {K L : Nat} {N : Nat → Nat} (h : Ld sv w t pm n P K L N) (hK : K ≤ 100000) (h2 : 2 ≤ L) (h3 : L ≤ n) (hf : isFree (P L) = true) (hn : n ≤ 4096) : Calls Tryz.prog 119 #[.pointer (some ⟨t, 0, none⟩)] w fun e w' => e = .returned (.tuple #[.int .i64 (L : Int), .int .i64 0]) ∧ Tr sv w' t pm n (upP P 1 (firstL (linkV (P L)) N)) (K + 1) true ∧ Only [t, pm] w w' := by
  have HF := hide (firstToChange_e w _ _ 0 h.fc)
  have HI := hide (sizeF L N)
  have HI' := hide (sizeF (linkV (P L)) N)
  have HSz := hide (size_fst L 0 N zN)
  have HOn := hide (fstL_one L N)
  have HFn := hide fst_new
  have HMe := hide (fun X (hb : Below w.heap.size w X) => meeting_e X t pm n (h.tr.later hb) L)
  have HMt := hide (fun X A M C B (hb : Below w.heap.size w X) (hm : MtB X A M C B L 1 n t) => (mt_meet X A M C B L 1 n t pm (h.tr.later hb) h.lk hm (by omega) h2 h3 (by omega)).mono (fun e w' hh => hh.1 hf))
  have HEd := hide (fun V => end_e V (L : Int) (linkV (P L) : Int))
  have hL0 : ((L : Int) == 0) = false := by simp; omega
  rw [hL0] at HEd
  have HPu := hide (fun X (hb : Below w.heap.size w X) => (sput_e X _ (linkV (P L)) (linkV_lt _) N h.nm 0 _ (.inn (k := 1) (h.tr.later hb) (Nat.le_refl _) (by omega) (by omega) hK)).mono (fun e w' hh => (And.intro hh.1 (And.intro hh.2.1 (And.intro (Only.after_below hb hh.2.2) hh.2.2)) : e = .returned (.int .i64 0) ∧ Tr sv w' t pm (max n 1) (upP P 1 (firstL (linkV (P L)) N)) (K + 1) true ∧ Only [t, pm] w w' ∧ Only [t, pm] X w')))
  have HLt := hide (tr_lt h.tr)
  rw [show max n 1 = n by omega] at HPu
  have HIr := hide infoFr
  have HFr := hide (fun V => Blk.new V #[.int .i64 0, .int .u32 0] 111)
  clear h hf
  generalize linkV (P L) = X at *
  go_enter Tryz.func119, Tryz.ntmps119
  go_wp2_with (first
    | (go_at_call 113; (with_reducible refine Calls.mono HF.out ?_); rintro e w4 ⟨rfl, hb⟩; have HB4 := hide (below_trans hb (below_alloc w4 (.cells #[.int .u32 0, .int .u32 0, .int .u32 0, .int .u32 0, .int .u32 0, .int .u32 0, .int .u32 0, .int .u32 0, .int .u32 0] 105))); have HF4 := hide (HFn.out w4); have HS4 := hide hb.size; clear hb)
    | ((with_reducible refine atSt 105 ?_); refine wp_storeB (c := (fstL L N).toArray) HI.out HSz.out HOn.out HF4.out _ _ (by rfl) (by rfl) (by rfl) (by rfl) ?_; intro W5 hb5 ho5; have c5 := FstB.link hb5; have HF5 := hide hb5; have HZ5 := hide (Blk.lt hb5); have HB5 := hide (below_only1 HB4.out ho5 HS4.out); clear hb5 ho5)
    | (go_at_call 51; (with_reducible refine Calls.mono (HMe.out _ HB5.out) ?_); rintro e w6 ⟨A, M, C, B, rfl, hm, hb, hA, hM, _⟩; have HM6 := hide hm; have HF6 := hide (Blk.later HF5.out hb); have HA6 := hide (And.intro hA hM); have HB6 := hide (below_trans HB5.out hb); clear hm hb hA hM)
    | (go_at_call 122; (with_reducible refine Calls.mono (HMt.out _ _ _ _ _ HB6.out HM6.out) ?_); rintro e w7 ⟨rfl, hr, ho⟩; have hb := below_only HB6.out ho (two_in (Nat.le_trans HB5.out.size HA6.out.1) (Nat.le_trans HB5.out.size HA6.out.2)); have HS7 := hide hb.size; have HB7 := hide (below_trans hb (below_alloc w7 (.cells #[.int .i64 0, .int .u32 0] 111))); have HF7 := hide (Blk.later (Blk.only HF6.out ho (not_two (Nat.lt_of_lt_of_le HZ5.out HA6.out.1) (Nat.lt_of_lt_of_le HZ5.out HA6.out.2))) (below_alloc w7 (.cells #[.int .i64 0, .int .u32 0] 111))); have HZ7 := hide (Nat.lt_of_lt_of_le HZ5.out (Nat.le_trans HA6.out.1 (Nat.le_of_lt (Blk.lt hr.a)))); clear hb ho hr)
    | ((with_reducible refine atSt 111 ?_); refine wp_storeB (c := #[.int .i64 (L : Int), .int .u32 (X : Int)]) (z := #[.int .i64 0, .int .u32 0]) HIr.out rfl (fr_one _ _) (HFr.out _) _ _ (by rfl) (by rfl) (by rfl) (by rfl) ?_; intro W8 hb8 ho8; have HF8 := hide hb8; have HG8 := hide (Blk.only HF7.out ho8 (by have := HZ7.out; simp; omega)); have HB8 := hide (below_only1 HB7.out ho8 HS7.out); clear hb8 ho8)
    | ((with_reducible refine atLd 111 ?_); refine wp_loadB (c := #[.int .i64 (L : Int), .int .u32 (X : Int)]) HIr.out uFr HF8.out _ (by rfl) (by rfl) (by rfl) ?_)
    | (go_at_call 52; (with_reducible refine Calls.mono (HEd.out _) ?_); rintro e w9 ⟨rfl, hb⟩; have hF9 := Blk.later HF8.out hb; have hG9 := Blk.later HG8.out hb; have c90 := hF9.cell 0; have c91 := hF9.cell 1; have c9f := hG9.cell 0; have f9f := hG9.frozen 0; have HG9 := hide (fst_link hG9 X); have HF9 := hide hF9; have HB9 := hide (below_up' (below_trans HB8.out hb) HS4.out (.int .u32 (X : Int))); clear hb hF9 hG9)
    | ((with_reducible refine atLd 105 ?_); refine wp_loadB (c := (fstL X N).toArray) HI'.out uF HG9.out _ (by rfl) (by rfl) (by rfl) ?_)
    | (go_at_call 96; (with_reducible refine Calls.mono (HPu.out _ HB9.out) ?_); rintro e w10 ⟨rfl, g1, g2, g3⟩; have HB10 := hide (And.intro g1 g2); have c10 := (Blk.only (Blk.setOther HF9.out (Ne.symm (Nat.ne_of_lt HZ7.out)) 0 (.int .u32 (X : Int))) g3 (not_lt2 (Nat.lt_of_lt_of_le HLt.out.1 HS7.out) (Nat.lt_of_lt_of_le HLt.out.2 HS7.out))).cell 0; clear g1 g2 g3))
  go_ret2
  exact ⟨rfl, HB10.out⟩
end Go.Proofs.YthgclfhfipfknaaGreat
