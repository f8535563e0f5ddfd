/- Package space: a free page is taken. -/
/- Package space: a page is taken out of its place among the free ones: the plain part, and the parts of the walk. -/
import Derived.Test.YtenfjbcigkolaaaGreatSK
namespace Go.Proofs.YtenfjbcigkolaaaGreat
variable {sv : Value}
open Go.ChangeShapes Go.WideShapes Go.ChangeAt Go.RowKit Go.Maps
set_option linter.unusedVariables false

theorem fst_link {w : World} {g L : Nat} {N : Nat → Nat} (h : FstB w g L N) (X : Nat) : FstB (w.setCell ⟨g, 0, none⟩ (.int .u32 (X : Int))) g X N := Blk.set h 0 _
theorem below_up' {w a : World} (h : Below w.heap.size w a) {g : Nat} (hg : w.heap.size ≤ g) (v : Value) : Below w.heap.size w (a.setCell ⟨g, 0, none⟩ v) := h.setCell (p := ⟨g, 0, none⟩) hg v
theorem two_in {B a b : Nat} (h1 : B ≤ a) (h2 : B ≤ b) : ∀ k ∈ [a, b], B ≤ k := fun k hk => by simp at hk; omega
theorem tr_lt {w : World} {t pm n : Nat} {P : Nat → List UInt8} {K : Nat} {wr : Bool} (h : Tr sv w t pm n P K wr) : t < w.heap.size ∧ pm < w.heap.size := by
  obtain ⟨⟨j, d, mb, l, room, L, cn, h1, h2, h3⟩, ⟨D, ⟨es, cl, he, q1, q2, q3⟩, q4, q5⟩, h5, h6⟩ := h
  exact ⟨Blk.lt h2, (Array.getElem?_eq_some_iff.1 he).1⟩
theorem not_lt2 {g a b : Nat} (h1 : a < g) (h2 : b < g) : g ∉ [a, b] := fun hk => by simp at hk; omega
theorem not_two {g a b : Nat} (h1 : g < a) (h2 : g < b) : g ∉ [a, b] := fun hk => by simp at hk; omega
set_option maxRecDepth 20000 in
set_option maxHeartbeats 2000000 in
theorem take_free (w : World) (t pm n : Nat) {P : Nat → List UInt8} {K L : Nat} {N : Nat → Nat} (h : Ld sv w t pm n P K L N) (hK : K ≤ 100000) (h2 : 2 ≤ L) (h3 : L ≤ n) (hf : isFree (P L) = true) (hn : n ≤ 4096) : Calls Tryz.prog 38 #[.pointer (some ⟨t, 0, none⟩)] w fun e w' => e = .returned (.tuple #[.int .i64 (L : Int), .int .i64 0]) ∧ Tr sv w' t pm n (upP P 1 (firstL (linkV (P L)) N)) (K + 1) true ∧ Only [t, pm] w w' := by
  have HF := hide (firstToChange_e w _ _ 0 h.fc)
  have HI := hide (sizeF L N)
  have HI' := hide (sizeF (linkV (P L)) N)
  have HSz := hide (size_fst L 0 N zN)
  have HOn := hide (fstL_one L N)
  have HFn := hide fst_new
  have HMe := hide (fun X (hb : Below w.heap.size w X) => meeting_e X t pm n (h.tr.later hb) L)
  have HMt := hide (fun X A M C B (hb : Below w.heap.size w X) (hm : MtB X A M C B L 1 n t) => (mt_meet X A M C B L 1 n t pm (h.tr.later hb) h.lk hm (by omega) h2 h3 (by omega)).mono (fun e w' hh => hh.1 hf))
  have HEd := hide (fun V => end_e V (L : Int) (linkV (P L) : Int))
  have hL0 : ((L : Int) == 0) = false := by simp; omega
  rw [hL0] at HEd
  have HPu := hide (fun X (hb : Below w.heap.size w X) => (sput_e X _ (linkV (P L)) (linkV_lt _) N h.nm 0 _ (.inn (k := 1) (h.tr.later hb) (Nat.le_refl _) (by omega) (by omega) hK)).mono (fun e w' hh => (And.intro hh.1 (And.intro hh.2.1 (And.intro (Only.after_below hb hh.2.2) hh.2.2)) : e = .returned (.int .i64 0) ∧ Tr sv w' t pm (max n 1) (upP P 1 (firstL (linkV (P L)) N)) (K + 1) true ∧ Only [t, pm] w w' ∧ Only [t, pm] X w')))
  have HLt := hide (tr_lt h.tr)
  rw [show max n 1 = n by omega] at HPu
  have HIr := hide infoFr
  have HFr := hide (fun V => Blk.new V #[.int .i64 0, .int .u32 0] 155)
  clear h hf
  generalize linkV (P L) = X at *
  go_enter Tryz.func38, Tryz.ntmps38
  go_wp2_with (first
    | (go_at_call 95; (with_reducible refine Calls.mono HF.out ?_); rintro e w4 ⟨rfl, hb⟩; have HB4 := hide (below_trans hb (below_alloc w4 (.cells #[.int .u32 0, .int .u32 0, .int .u32 0, .int .u32 0, .int .u32 0, .int .u32 0, .int .u32 0, .int .u32 0, .int .u32 0] 151))); have HF4 := hide (HFn.out w4); have HS4 := hide hb.size; clear hb)
    | ((with_reducible refine atSt 151 ?_); refine wp_storeB (c := (fstL L N).toArray) HI.out HSz.out HOn.out HF4.out _ _ (by rfl) (by rfl) (by rfl) (by rfl) ?_; intro W5 hb5 ho5; have c5 := FstB.link hb5; have HF5 := hide hb5; have HZ5 := hide (Blk.lt hb5); have HB5 := hide (below_only1 HB4.out ho5 HS4.out); clear hb5 ho5)
    | (go_at_call 96; (with_reducible refine Calls.mono (HMe.out _ HB5.out) ?_); rintro e w6 ⟨A, M, C, B, rfl, hm, hb, hA, hM, _⟩; have HM6 := hide hm; have HF6 := hide (Blk.later HF5.out hb); have HA6 := hide (And.intro hA hM); have HB6 := hide (below_trans HB5.out hb); clear hm hb hA hM)
    | (go_at_call 136; (with_reducible refine Calls.mono (HMt.out _ _ _ _ _ HB6.out HM6.out) ?_); rintro e w7 ⟨rfl, hr, ho⟩; have hb := below_only HB6.out ho (two_in (Nat.le_trans HB5.out.size HA6.out.1) (Nat.le_trans HB5.out.size HA6.out.2)); have HS7 := hide hb.size; have HB7 := hide (below_trans hb (below_alloc w7 (.cells #[.int .i64 0, .int .u32 0] 155))); have HF7 := hide (Blk.later (Blk.only HF6.out ho (not_two (Nat.lt_of_lt_of_le HZ5.out HA6.out.1) (Nat.lt_of_lt_of_le HZ5.out HA6.out.2))) (below_alloc w7 (.cells #[.int .i64 0, .int .u32 0] 155))); have HZ7 := hide (Nat.lt_of_lt_of_le HZ5.out (Nat.le_trans HA6.out.1 (Nat.le_of_lt (Blk.lt hr.a)))); clear hb ho hr)
    | ((with_reducible refine atSt 155 ?_); refine wp_storeB (c := #[.int .i64 (L : Int), .int .u32 (X : Int)]) (z := #[.int .i64 0, .int .u32 0]) HIr.out rfl (fr_one _ _) (HFr.out _) _ _ (by rfl) (by rfl) (by rfl) (by rfl) ?_; intro W8 hb8 ho8; have HF8 := hide hb8; have HG8 := hide (Blk.only HF7.out ho8 (by have := HZ7.out; simp; omega)); have HB8 := hide (below_only1 HB7.out ho8 HS7.out); clear hb8 ho8)
    | ((with_reducible refine atLd 155 ?_); refine wp_loadB (c := #[.int .i64 (L : Int), .int .u32 (X : Int)]) HIr.out uFr HF8.out _ (by rfl) (by rfl) (by rfl) ?_)
    | (go_at_call 97; (with_reducible refine Calls.mono (HEd.out _) ?_); rintro e w9 ⟨rfl, hb⟩; have hF9 := Blk.later HF8.out hb; have hG9 := Blk.later HG8.out hb; have c90 := hF9.cell 0; have c91 := hF9.cell 1; have c9f := hG9.cell 0; have f9f := hG9.frozen 0; have HG9 := hide (fst_link hG9 X); have HF9 := hide hF9; have HB9 := hide (below_up' (below_trans HB8.out hb) HS4.out (.int .u32 (X : Int))); clear hb hF9 hG9)
    | ((with_reducible refine atLd 151 ?_); refine wp_loadB (c := (fstL X N).toArray) HI'.out uF HG9.out _ (by rfl) (by rfl) (by rfl) ?_)
    | (go_at_call 92; (with_reducible refine Calls.mono (HPu.out _ HB9.out) ?_); rintro e w10 ⟨rfl, g1, g2, g3⟩; have HB10 := hide (And.intro g1 g2); have c10 := (Blk.only (Blk.setOther HF9.out (Ne.symm (Nat.ne_of_lt HZ7.out)) 0 (.int .u32 (X : Int))) g3 (not_lt2 (Nat.lt_of_lt_of_le HLt.out.1 HS7.out) (Nat.lt_of_lt_of_le HLt.out.2 HS7.out))).cell 0; clear g1 g2 g3))
  go_ret2
  exact ⟨rfl, HB10.out⟩
end Go.Proofs.YtenfjbcigkolaaaGreat

namespace Go.Proofs.YtenfjbcigkolaaaGreat
variable {sv : Value}
open Go.ChangeShapes Go.WideShapes Go.ChangeAt Go.RowKit Go.Maps
set_option linter.unusedVariables false

/-- Where page k is met among the free pages: behind which one (0: it is the first), and its link. -/
noncomputable def liftR (P : Nat → List UInt8) (n k : Nat) : Nat → Nat → Nat → Option (Nat × Nat)
  | 0, _, _ => none
  | f + 1, L, last => if 2 ≤ L ∧ L ≤ n ∧ isFree (P L) = true then (if L = k then some (last, linkV (P L)) else liftR P n k f (linkV (P L)) L) else none
/-- What lift leaves. -/
def LfW (sv : Value) (w w' : World) (t pm n : Nat) (P : Nat → List UInt8) (K F : Nat) (N : Nat → Nat) : Option (Nat × Nat) → Prop
  | none => Below w.heap.size w w'
  | some (0, x) => Only [F] w w' ∧ FstB w' F x N
  | some (l + 1, x) => Tr sv w' t pm n (upP P (l + 1) (freeL x)) (K + 1) true ∧ Only [t, pm] w w'
/-- The state of lift's loop. -/
structure LfI (w wr : World) (A M C B LB L m n t last lk : Nat) : Prop where
  bel : Below w.heap.size w wr
  mt : MtB wr A M C B L m n t
  lb : Blk wr LB #[.int .i64 (last : Int), .int .u32 (lk : Int)] 155
  a : w.heap.size ≤ A
  mm : w.heap.size ≤ M
  l : w.heap.size ≤ LB
  lt : L < 4294967296
  one : 1 ≤ m
  le : m ≤ n
theorem LfI.ne {w wr : World} {A M C B LB L m n t last lk : Nat} (h : LfI w wr A M C B LB L m n t last lk) : LB ≠ A ∧ LB ≠ M ∧ LB ≠ C ∧ LB ≠ B := by
  refine ⟨?_, ?_, ?_, ?_⟩
  · rintro rfl; have := h.lb.symm.trans h.mt.a; simp at this
  · rintro rfl; have := h.lb.symm.trans h.mt.m; simp at this
  · rintro rfl; have := h.lb.symm.trans h.mt.c; simp at this
  · rintro rfl; have := h.lb.symm.trans h.mt.b; simp at this
theorem liftR_none {P : Nat → List UInt8} {n k m L last : Nat} (hm : 1 ≤ m) (h : ¬ ((m ≠ n ∧ 2 ≤ L ∧ L ≤ n) ∧ isFree (P L) = true)) (hle : m ≤ n) : liftR P n k (n - m) L last = none := by
  by_cases h0 : n - m = 0
  · rw [h0]; rfl
  · obtain ⟨f, hf⟩ : ∃ f, n - m = f + 1 := ⟨n - m - 1, by omega⟩
    rw [hf, liftR, if_neg]
    intro hh
    exact h ⟨⟨by omega, hh.1, hh.2.1⟩, hh.2.2⟩
theorem liftR_some {P : Nat → List UInt8} {n k m L last : Nat} (h : (m ≠ n ∧ 2 ≤ L ∧ L ≤ n) ∧ isFree (P L) = true) (hle : m ≤ n) : liftR P n k (n - m) L last = if L = k then some (last, linkV (P L)) else liftR P n k (n - (m + 1)) (linkV (P L)) L := by
  obtain ⟨⟨h1, h2, h3⟩, h4⟩ := h
  obtain ⟨f, hf⟩ : ∃ f, n - m = f + 1 := ⟨n - m - 1, by omega⟩
  rw [hf, liftR, if_pos ⟨h2, h3, h4⟩, show n - (m + 1) = f by omega]
theorem mt_stop (w wr : World) (A M C B LB L m n t last lk pm : Nat) {P : Nat → List UInt8} {K : Nat} {b : Bool} (hi : LfI w wr A M C B LB L m n t last lk) (ht : Tr sv wr t pm n P K b) (hok : ¬ ((m ≠ n ∧ 2 ≤ L ∧ L ≤ n) ∧ isFree (P L) = true)) :
    ∃ E : Int, (E = 0 ∨ E = 8) ∧ Calls Tryz.prog 136 #[.pointer (some ⟨A, 0, none⟩), .pointer (some ⟨M, 0, none⟩), .pointer (some ⟨C, 0, none⟩), .pointer (some ⟨B, 0, none⟩)] wr fun e w' => e = .returned (.tuple #[.agg #[.int .i64 0, .int .u32 0], .int .i64 E]) ∧ Below w.heap.size w w' := by
  by_cases h0 : L = 0
  · refine ⟨0, .inl rfl, ?_⟩
    have hm := hi.mt
    rw [h0] at hm
    exact (mt_end wr A M C B m n t hm).mono fun e w' hh => ⟨hh.1, below_trans hi.bel hh.2⟩
  · refine ⟨8, .inr rfl, ?_⟩
    by_cases hf : m = n ∨ ¬ (2 ≤ L ∧ L ≤ n)
    · exact (mt_far wr A M C B L m n t hi.lt h0 hi.mt hf).mono fun e w' hh => ⟨hh.1, below_trans hi.bel hh.2⟩
    · have h1 : m ≠ n ∧ 2 ≤ L ∧ L ≤ n := by omega
      have hfr : isFree (P L) = false := by
        cases hq : isFree (P L) with
        | false => rfl
        | true => exact absurd ⟨h1, hq⟩ hok
      have := ht.few
      exact (mt_meet wr A M C B L m n t pm ht hi.lt hi.mt h1.1 h1.2.1 h1.2.2 (by have := hi.le; omega)).mono fun e w' hh => ⟨(hh.2 hfr).1, below_only hi.bel (hh.2 hfr).2.2 (two_in hi.a hi.mm)⟩
/-- A number that lies in a block. -/
def cellN (w : World) (b : Nat) : Nat := match w.cell? ⟨b, 0, none⟩ with
  | some v => (intOf v).toNat
  | none => 0
theorem MtB.num {w : World} {A M C B L m n t : Nat} (h : MtB w A M C B L m n t) : cellN w M = m := by
  unfold cellN
  rw [show w.cell? ⟨M, 0, none⟩ = some (.int .i64 (m : Int)) from h.m.cell 0]
  simp [intOf]
theorem LfI.later {w wr w' : World} {A M C B LB L m n t last lk : Nat} (h : LfI w wr A M C B LB L m n t last lk) (hb : Below wr.heap.size wr w') : LfI w w' A M C B LB L m n t last lk :=
  ⟨below_trans h.bel hb, h.mt.later hb, Blk.later h.lb hb, h.a, h.mm, h.l, h.lt, h.one, h.le⟩
theorem LfI.step {w wr w8 W9 : World} {A M C B LB L m n t last lk X : Nat} (hi : LfI w wr A M C B LB L m n t last lk) (hm : MtB w8 A M C B X (m + 1) n t) (ho : Only [A, M] wr w8) (hX : X < 4294967296) (hmn : m ≠ n) {o : Obj} (ho9 : Only [w8.heap.size] (w8.alloc o) W9) : LfI w W9 A M C B LB X (m + 1) n t last lk := by
  have h1 := below_only hi.bel ho (two_in hi.a hi.mm)
  have h2 : Below w.heap.size w W9 := below_only1 (below_trans h1 (below_alloc _ _)) ho9 h1.size
  have k : ∀ {b : Nat} {c : Array Value} {ty : TypeId}, Blk w8 b c ty → Blk W9 b c ty := fun {b c ty} hb => Blk.only (Blk.later hb (below_alloc _ _)) ho9 (by have := Blk.lt hb; simp; omega)
  have hne := hi.ne
  exact ⟨h2, ⟨k hm.a, k hm.m, k hm.c, k hm.b, hm.mc⟩, k (Blk.only hi.lb ho (by simp; omega)), hi.a, hi.mm, hi.l, hX, by omega, by have := hi.le; omega⟩
theorem LfI.cells {w wr : World} {A M C B LB L m n t last lk : Nat} (h : LfI w wr A M C B LB L m n t last lk) : wr.cell? ⟨LB, 0, none⟩ = some (.int .i64 (last : Int)) ∧ wr.cell? ⟨LB, 1, none⟩ = some (.int .u32 (lk : Int)) := ⟨h.lb.cell 0, h.lb.cell 1⟩
theorem LfI.put {w wr W : World} {A M C B LB L m n t last lk a b : Nat} (h : LfI w wr A M C B LB L m n t last lk) (hb : Blk W LB #[.int .i64 (a : Int), .int .u32 (b : Int)] 155) (ho : Only [LB] wr W) : LfI w W A M C B LB L m n t a b := by
  have hne := h.ne
  have k : ∀ {b : Nat} {c : Array Value} {ty : TypeId}, Blk wr b c ty → b ≠ LB → Blk W b c ty := fun {b c ty} hb hn => Blk.only hb ho (by simpa using hn)
  exact ⟨below_only1 h.bel ho h.l, ⟨k h.mt.a (Ne.symm hne.1), k h.mt.m (Ne.symm hne.2.1), k h.mt.c (Ne.symm hne.2.2.1), k h.mt.b (Ne.symm hne.2.2.2), h.mt.mc⟩, hb, h.a, h.mm, h.l, h.lt, h.one, h.le⟩
theorem lift_first {w w' : World} {F L : Nat} {N : Nat → Nat} (h : FstB w F L N) (hb : Below w.heap.size w w') (X : Nat) : Only [F] w (w'.setCell ⟨F, 0, none⟩ (.int .u32 (X : Int))) ∧ FstB (w'.setCell ⟨F, 0, none⟩ (.int .u32 (X : Int))) F X N :=
  ⟨Only.after_below hb (Only.setCell w' ⟨F, 0, none⟩ _), fst_link (Blk.later h hb) X⟩
end Go.Proofs.YtenfjbcigkolaaaGreat
