/- Package space: a free page is met; Take. -/
import Derived.Test.YtenfjbcigkolaaaGreatSI
namespace Go.Proofs.YtenfjbcigkolaaaGreat
open Go.ChangeShapes Go.WideShapes Go.ChangeAt Go.RowKit Go.Maps
set_option linter.unusedVariables false

theorem Blk.setOther {w : World} {b a : Nat} {c : Array Value} {ty : TypeId} (h : Blk w b c ty) (hn : b ≠ a) (o : Nat) (v : Value) : Blk (w.setCell ⟨a, o, none⟩ v) b c ty := h.only (Only.setCell w ⟨a, o, none⟩ v) (by simpa using hn)
/-- What a step leaves in the boxes. -/
def MtR (w w' : World) (A M C B L m n t : Nat) : Prop := MtB w' A M C B L m n t ∧ Only [A, M] w w'
set_option maxRecDepth 20000 in
set_option maxHeartbeats 2000000 in
theorem mt_meet (w : World) (A M C B L m n t pm : Nat) {P : Nat → List UInt8} {K : Nat} {wr : Bool} (ht : Tr w t pm n P K wr) (hL : L < 4294967296) (h : MtB w A M C B L m n t) (hm : m ≠ n) (h2 : 2 ≤ L) (h3 : L ≤ n) (hm2 : m ≤ 100000) :
    Calls Tryz.prog 136 #[.pointer (some ⟨A, 0, none⟩), .pointer (some ⟨M, 0, none⟩), .pointer (some ⟨C, 0, none⟩), .pointer (some ⟨B, 0, none⟩)] w fun e w' =>
      (isFree (P L) = true → e = .returned (.tuple #[.agg #[.int .i64 (L : Int), .int .u32 (linkV (P L) : Int)], .int .i64 0]) ∧ MtR w w' A M C B (linkV (P L)) (m + 1) n t) ∧
      (isFree (P L) = false → e = .returned (.tuple #[.agg #[.int .i64 0, .int .u32 0], .int .i64 8]) ∧ MtR w w' A M C B L (m + 1) n t) := by
  have HB0 := hide (below_alloc w (.cells #[.int .i64 0, .int .u32 0] 155))
  have HF0 := hide (Blk.new w #[.int .i64 0, .int .u32 0] 155)
  have cA : (w.alloc (.cells #[.int .i64 0, .int .u32 0] 155)).cell? ⟨A, 0, none⟩ = some (.int .u32 (L : Int)) := (h.a.later HB0.out).cell 0
  have cM : (w.alloc (.cells #[.int .i64 0, .int .u32 0] 155)).cell? ⟨M, 0, none⟩ = some (.int .i64 (m : Int)) := (h.m.later HB0.out).cell 0
  have cC : (w.alloc (.cells #[.int .i64 0, .int .u32 0] 155)).cell? ⟨C, 0, none⟩ = some (.int .i64 (n : Int)) := (h.c.later HB0.out).cell 0
  have fM := (h.m.later HB0.out).frozen 0
  have HI := hide infoFr
  have HMb := hide (fun V => mayBeFree_e V (L : Int) (n : Int))
  rw [show mbF (L : Int) (n : Int) = true from decide_eq_true (by omega)] at HMb
  have l0 : ¬ (L : Int) = 0 := by omega
  have hw : IntKind.i64.wrap (L : Int) = (L : Int) := by rw [IntKind.wrap_i64]; omega
  have hw1 : IntKind.i64.wrap ((m : Int) + 1) = (m : Int) + 1 := by rw [IntKind.wrap_i64]; omega
  have hq : ((m : Int) == (n : Int)) = false := by simp; omega
  have hMB := h.later HB0.out
  have nAM : A ≠ M := blk_ne h.a h.m (by decide)
  have nBM : B ≠ M := blk_ne h.b h.m (by decide)
  have nFM : w.heap.size ≠ M := Nat.ne_of_gt h.m.lt
  have nFA : w.heap.size ≠ A := Nat.ne_of_gt h.a.lt
  obtain ⟨W1, hW1⟩ : ∃ W1, W1 = (w.alloc (.cells #[.int .i64 0, .int .u32 0] 155)).setCell ⟨M, 0, none⟩ (.int .i64 ((m : Int) + 1)) := ⟨_, rfl⟩
  have ho1 : Only [M] (w.alloc (.cells #[.int .i64 0, .int .u32 0] 155)) W1 := by rw [hW1]; exact Only.setCell _ ⟨M, 0, none⟩ _
  have HMt : Hid (MtB W1 A M C B L (m + 1) n t) := by
    refine ⟨hMB.a.only ho1 (by simpa using nAM), ?_, hMB.c.only ho1 (by have := h.mc; simp; omega), hMB.b.only ho1 (by simpa using nBM), h.mc⟩
    rw [hW1]; exact hMB.m.set 0 (.int .i64 ((m : Int) + 1))
  have HTr : Hid (Tr W1 t pm n P K wr) := (ht.later HB0.out).only ho1 (fun b hb => by rw [List.mem_singleton.1 hb]; exact ⟨_, _, hMB.m, .inl rfl⟩)
  have HO1 : Hid (Only [A, M] w W1) := (Only.of_below HB0.out).trans (ho1.mono (by simp))
  have HF1 : Hid (Blk W1 w.heap.size #[.int .i64 0, .int .u32 0] 155) := HF0.out.only ho1 (by simpa using nFM)
  have cB1 : W1.cell? ⟨B, 0, none⟩ = some (.pointer (some ⟨t, 0, none⟩)) := HMt.out.b.cell 0
  have HPg := hide (page_e W1 _ (L : Int) (P L) 0 (PgK.inn HTr.out (by omega) h3))
  have HLn := hide (ht.len L)
  have HFl := hide (fun V => freeLink_e V (P L) (ht.len L))
  have HNe := hide (And.intro nFM nFA)
  have HCB := hide (And.intro h.c.lt h.b.lt)
  have hz := zeroP
  generalize P L = pl at *
  clear h ht hMB ho1 nAM nBM nFM nFA hm h2 h3
  subst hW1
  cases hfr : isFree pl with
  | true =>
    rw [hfr] at HFl
    generalize linkV pl = lk at *
    go_enter Tryz.func136, Tryz.ntmps136
    go_wp2_with (first
      | (go_at_call 99; (with_reducible refine Calls.mono (HMb.out _) ?_); rintro e w4 ⟨rfl, rfl⟩)
      | (go_at_call 12; (with_reducible refine Calls.mono HPg.out ?_); rintro e w5 ⟨rfl, hb⟩; have HB5 := hide (below_trans hb (below_alloc w5 (.cells (bc zs) 32))); have HN5 := hide (PAt.new w5 zs); have HS5 := hide hb.size; clear hb)
      | ((with_reducible refine atSt 32 ?_); refine wp_storeP HLn.out zs_length HN5.out _ _ (by rfl) (by rfl) (by rfl) (by rfl) ?_; intro W6 hp hb hk; have HP6 := hide hp; have HB6 := hide (hb _ _ HB5.out HS5.out); clear hp hb hk)
      | ((with_reducible refine atLd 32 ?_); refine wp_loadP HLn.out HP6.out _ (by rfl) (by rfl) (by rfl) ?_)
      | (go_at_call 137; (with_reducible refine Calls.mono (HFl.out _) ?_); rintro e w7 ⟨rfl, hb⟩; have HB7 := hide (below_trans HB6.out hb); have HM7 := hide (HMt.out.later HB7.out); have HF7 := hide (HF1.out.later HB7.out); have c7 := (HM7.out.a.cell 0).trans (show _ = some (Value.int .u32 (L : Int)) from rfl); have f7 := HM7.out.a.frozen 0; have HF8 := hide (HF7.out.setOther HNe.out.2 0 (.int .u32 (lk : Int))); clear hb)
      | ((with_reducible refine atSt 155 ?_); refine wp_storeB (c := #[.int .i64 (L : Int), .int .u32 (lk : Int)]) (z := #[.int .i64 0, .int .u32 0]) HI.out rfl (fr_one _ _) HF8.out _ _ (by rfl) (by rfl) (by rfl) (by rfl) ?_; intro W9 hb9 ho9; have HF9 := hide hb9; have HO9 := hide ho9; clear hb9 ho9))
    refine ret_blk2 (c := #[.int .i64 (L : Int), .int .u32 (lk : Int)]) HI.out uFr Tryz.results136 (by rfl) (by rfl) HF9.out ?_
    refine ⟨fun _ => ⟨rfl, ?_⟩, fun h => absurd h (by decide)⟩
    have n1 := HNe.out
    have nFC : w.heap.size ≠ C := Nat.ne_of_gt (HCB.out.1)
    have nFB : w.heap.size ≠ B := Nat.ne_of_gt (HCB.out.2)
    have nAM : A ≠ M := blk_ne HM7.out.a HM7.out.m (by decide)
    have nAC : A ≠ C := blk_ne HM7.out.a HM7.out.c (by decide)
    have nAB : A ≠ B := blk_ne HM7.out.a HM7.out.b (by decide)
    refine ⟨⟨(HM7.out.a.set 0 (.int .u32 (lk : Int))).only HO9.out (by simp; omega), (HM7.out.m.setOther (Ne.symm nAM) 0 _).only HO9.out (by simp; omega), (HM7.out.c.setOther (Ne.symm nAC) 0 _).only HO9.out (by simp; omega), (HM7.out.b.setOther (Ne.symm nAB) 0 _).only HO9.out (by simp; omega), HM7.out.mc⟩, ?_⟩
    exact ((HO1.out.then_below HB7.out).trans ((Only.setCell w7 ⟨A, 0, none⟩ (.int .u32 (lk : Int))).mono (by simp))).andThen HO9.out (fun j hj => .inr (by rw [List.mem_singleton.1 hj]; exact Nat.le_refl _))
  | false =>
    rw [hfr] at HFl
    generalize linkV pl = lk at *
    go_enter Tryz.func136, Tryz.ntmps136
    go_wp2_with (first
      | (go_at_call 99; (with_reducible refine Calls.mono (HMb.out _) ?_); rintro e w4 ⟨rfl, rfl⟩)
      | (go_at_call 12; (with_reducible refine Calls.mono HPg.out ?_); rintro e w5 ⟨rfl, hb⟩; have HB5 := hide (below_trans hb (below_alloc w5 (.cells (bc zs) 32))); have HN5 := hide (PAt.new w5 zs); have HS5 := hide hb.size; clear hb)
      | ((with_reducible refine atSt 32 ?_); refine wp_storeP HLn.out zs_length HN5.out _ _ (by rfl) (by rfl) (by rfl) (by rfl) ?_; intro W6 hp hb hk; have HP6 := hide hp; have HB6 := hide (hb _ _ HB5.out HS5.out); clear hp hb hk)
      | ((with_reducible refine atLd 32 ?_); refine wp_loadP HLn.out HP6.out _ (by rfl) (by rfl) (by rfl) ?_)
      | (go_at_call 137; (with_reducible refine Calls.mono (HFl.out _) ?_); rintro e w7 ⟨rfl, hb⟩; have HB7 := hide (below_trans HB6.out hb); have HM7 := hide (HMt.out.later HB7.out); have HF7 := hide (HF1.out.later HB7.out); clear hb)
      | ((with_reducible refine atSt 155 ?_); refine wp_storeB (c := #[.int .i64 0, .int .u32 0]) HI.out rfl (fr_one _ _) HF7.out _ _ (by rfl) (by rfl) (by rfl) (by rfl) ?_; intro W9 hb9 ho9; have HF9 := hide hb9; have HO9 := hide ho9; clear hb9 ho9))
    refine ret_blk2 (c := #[.int .i64 0, .int .u32 0]) HI.out uFr Tryz.results136 (by rfl) (by rfl) HF9.out ?_
    refine ⟨fun h => absurd h (by decide), fun _ => ⟨rfl, ?_⟩⟩
    have n1 := HNe.out
    have nFC : w.heap.size ≠ C := Nat.ne_of_gt (HCB.out.1)
    have nFB : w.heap.size ≠ B := Nat.ne_of_gt (HCB.out.2)
    refine ⟨⟨HM7.out.a.only HO9.out (by simp; omega), HM7.out.m.only HO9.out (by simp; omega), HM7.out.c.only HO9.out (by simp; omega), HM7.out.b.only HO9.out (by simp; omega), HM7.out.mc⟩, ?_⟩
    exact (HO1.out.then_below HB7.out).andThen HO9.out (fun j hj => .inr (by rw [List.mem_singleton.1 hj]; exact Nat.le_refl _))
end Go.Proofs.YtenfjbcigkolaaaGreat
