/- Package space: the free pages are met. -/
/- Package space: a free page is met; Take. -/
import Derived.Test.YthgclfhfipfknaaGreatSH
namespace Go.Proofs.YthgclfhfipfknaaGreat
variable {sv : Value}
open Go.ChangeShapes Go.WideShapes Go.ChangeAt Go.RowKit Go.Maps
set_option linter.unusedVariables false

/-- The first page that was put is the one that is read. -/
theorem first_read (L : Nat) (hL : L < 4294967296) (N : Nat → Nat) (hN : ∀ i, N i < 4294967296) : rdV (firstL L N) = fstL L N ∧ rdE (firstL L N) = 0 := by
  obtain ⟨h1, h2, h3, h4, h5, _⟩ := page_facts 0 L 9 (fS N) (by omega) hL (fS_sizes N) (by rw [fS_cat]; omega)
  have hk : kindV (firstL L N) = 0 := (if_pos h1).trans h2
  have hc : cntV (firstL L N) = 9 := (if_pos h1).trans h3
  have hl : linkV (firstL L N) = L := (if_pos h1).trans h4
  have hcs : ∀ i, i < 9 → cellS (firstL L N) i = fS N i := h5
  have hf : fok (firstL L N) := ⟨hk, hc, fun i hi => by
    unfold good
    by_cases e : i = 0
    · rw [if_pos e]; exact hcs 0 (by omega)
    · rw [if_neg e, hcs i hi]
      obtain ⟨j, rfl⟩ : ∃ j, i = j + 1 := ⟨i - 1, by omega⟩
      rfl⟩
  refine ⟨?_, if_pos hf⟩
  rw [show rdV (firstL L N) = fstL (linkV (firstL L N)) (rdN (firstL L N)) from if_pos hf, hl]
  exact fst_congr L (fun i hi => by unfold rdN; rw [hcs (i + 1) (by omega)]; exact num_cell _ (hN i))
/-- The boxes of a closure that goes from free page to free page. -/
structure MtB (w : World) (A M C B L m n : Nat) (t : Nat) : Prop where
  a : Blk w A #[.int .u32 (L : Int)] 28
  m : Blk w M #[.int .i64 (m : Int)] 3
  c : Blk w C #[.int .i64 (n : Int)] 3
  b : Blk w B #[.pointer (some ⟨t, 0, none⟩)] 24
  mc : M ≠ C
theorem MtB.later {w w' : World} {A M C B L m n t : Nat} (h : MtB w A M C B L m n t) (hb : Below w.heap.size w w') : MtB w' A M C B L m n t := ⟨h.a.later hb, h.m.later hb, h.c.later hb, h.b.later hb, h.mc⟩
/-- What meeting leaves. -/
def MtW (w w' : World) (A M C B L n t : Nat) : Prop := MtB w' A M C B L 1 n t ∧ Below w.heap.size w w' ∧ w.heap.size ≤ A ∧ w.heap.size ≤ M ∧ w.heap.size ≤ C ∧ w.heap.size ≤ B
set_option maxRecDepth 20000 in
theorem meeting_e (w : World) (t pm n : Nat) {P : Nat → List UInt8} {K : Nat} {wr : Bool} (h : Tr sv w t pm n P K wr) (L : Nat) : Calls Tryz.prog 51 #[.pointer (some ⟨t, 0, none⟩), .int .u32 (L : Int)] w fun e w' => ∃ A M C B, e = .returned (.func (.func 122) #[] #[.pointer (some ⟨A, 0, none⟩), .pointer (some ⟨M, 0, none⟩), .pointer (some ⟨C, 0, none⟩), .pointer (some ⟨B, 0, none⟩)]) ∧ MtW w w' A M C B L n t := by
  have hs1 : (w.alloc (.cells #[.pointer (some ⟨t, 0, none⟩)] 24)).heap.size = w.heap.size + 1 := by simp
  have HB0 : Hid (Below w.heap.size w ((w.alloc (.cells #[.pointer (some ⟨t, 0, none⟩)] 24)).alloc (.cells #[.int .u32 (L : Int)] 28))) := below_trans (below_alloc _ _) (below_alloc _ _)
  have HBb : Hid (Blk ((w.alloc (.cells #[.pointer (some ⟨t, 0, none⟩)] 24)).alloc (.cells #[.int .u32 (L : Int)] 28)) w.heap.size #[.pointer (some ⟨t, 0, none⟩)] 24) := (Blk.new w _ _).later (below_alloc _ _)
  have HBa : Hid (Blk ((w.alloc (.cells #[.pointer (some ⟨t, 0, none⟩)] 24)).alloc (.cells #[.int .u32 (L : Int)] 28)) (w.heap.size + 1) #[.int .u32 (L : Int)] 28) := by
    show Blk _ _ _ _
    rw [← hs1]; exact Blk.new _ _ _
  have HC := hide (count_e _ t pm n (h.later HB0.out))
  have HSz : Hid (((w.alloc (.cells #[.pointer (some ⟨t, 0, none⟩)] 24)).alloc (.cells #[.int .u32 (L : Int)] 28)).heap.size = w.heap.size + 2) := by show _ = _; simp
  clear h hs1
  go_enter Tryz.func51, Tryz.ntmps51
  go_wp2_with (first
    | (go_at_call 18; (with_reducible refine Calls.mono HC.out ?_); rintro e w4 ⟨rfl, hb⟩; have HB4 := hide (below_trans HB0.out hb); have HA4 := hide (HBa.out.later hb); have HBB4 := hide (HBb.out.later hb); have HS4 := hide hb.size; clear hb))
  go_ret
  have hs5 : (w4.alloc (.cells #[.int .i64 (n : Int)] 3)).heap.size = w4.heap.size + 1 := by simp
  have hB5 : Below w4.heap.size w4 ((w4.alloc (.cells #[.int .i64 (n : Int)] 3)).alloc (.cells #[.int .i64 1] 3)) := below_trans (below_alloc _ _) (below_alloc _ _)
  have h1 := HS4.out
  have h2 := HSz.out
  refine ⟨_, _, _, _, rfl, ⟨HA4.out.later hB5, ?_, (Blk.new w4 _ _).later (below_alloc _ _), HBB4.out.later hB5, by omega⟩, below_trans HB4.out hB5, by omega, by omega, by omega, Nat.le_refl _⟩
  rw [← hs5]; exact Blk.new _ _ _
theorem infoFr : (Tryz.prog.info? 111).map (·.size) = some 2 := by kernel_rfl
theorem uFr : ∃ d, Tryz.prog.underlying 111 = some d ∧ d.isRow = true := ⟨_, Tryz.underlying111, rfl⟩
theorem fr_one (a : Int) (b : Int) : (#[Value.int .i64 a, .int .u32 b]).all (·.oneCell') = true := all_oneCell_toArray (cs := [Value.int .i64 a, .int .u32 b]) (by intro v hv; simp at hv; rcases hv with rfl | rfl <;> rfl)
set_option maxRecDepth 20000 in
theorem mt_end (w : World) (A M C B m n t : Nat) (h : MtB w A M C B 0 m n t) : Calls Tryz.prog 122 #[.pointer (some ⟨A, 0, none⟩), .pointer (some ⟨M, 0, none⟩), .pointer (some ⟨C, 0, none⟩), .pointer (some ⟨B, 0, none⟩)] w fun e w' => e = .returned (.tuple #[.agg #[.int .i64 0, .int .u32 0], .int .i64 0]) ∧ Below w.heap.size w w' := by
  have HB0 := hide (below_alloc w (.cells #[.int .i64 0, .int .u32 0] 111))
  have HF0 := hide (Blk.new w #[.int .i64 0, .int .u32 0] 111)
  have cA : (w.alloc (.cells #[.int .i64 0, .int .u32 0] 111)).cell? ⟨A, 0, none⟩ = some (.int .u32 0) := (h.a.later HB0.out).cell 0
  have HI := hide infoFr
  clear h
  go_enter Tryz.func122, Tryz.ntmps122
  go_wp2_with (first
    | ((with_reducible refine atSt 111 ?_); refine wp_storeB (c := #[.int .i64 0, .int .u32 0]) HI.out rfl (fr_one _ _) HF0.out _ _ (by rfl) (by rfl) (by rfl) (by rfl) ?_; intro W6 hb6 ho6; have HF6 := hide hb6; have HB6 := hide (below_only1 HB0.out ho6 (Nat.le_refl _)); clear hb6 ho6))
  refine ret_blk2 (c := #[.int .i64 0, .int .u32 0]) HI.out uFr Tryz.results122 (by rfl) (by rfl) HF6.out ?_
  exact ⟨rfl, HB6.out⟩
set_option maxRecDepth 20000 in
theorem mt_far (w : World) (A M C B L m n t : Nat) (hL : L < 4294967296) (hL0 : L ≠ 0) (h : MtB w A M C B L m n t) (hf : m = n ∨ ¬ (2 ≤ L ∧ L ≤ n)) : Calls Tryz.prog 122 #[.pointer (some ⟨A, 0, none⟩), .pointer (some ⟨M, 0, none⟩), .pointer (some ⟨C, 0, none⟩), .pointer (some ⟨B, 0, none⟩)] w fun e w' => e = .returned (.tuple #[.agg #[.int .i64 0, .int .u32 0], .int .i64 8]) ∧ Below w.heap.size w w' := by
  have HB0 := hide (below_alloc w (.cells #[.int .i64 0, .int .u32 0] 111))
  have HF0 := hide (Blk.new w #[.int .i64 0, .int .u32 0] 111)
  have cA : (w.alloc (.cells #[.int .i64 0, .int .u32 0] 111)).cell? ⟨A, 0, none⟩ = some (.int .u32 (L : Int)) := (h.a.later HB0.out).cell 0
  have cM : (w.alloc (.cells #[.int .i64 0, .int .u32 0] 111)).cell? ⟨M, 0, none⟩ = some (.int .i64 (m : Int)) := (h.m.later HB0.out).cell 0
  have cC : (w.alloc (.cells #[.int .i64 0, .int .u32 0] 111)).cell? ⟨C, 0, none⟩ = some (.int .i64 (n : Int)) := (h.c.later HB0.out).cell 0
  have HI := hide infoFr
  have HM := hide (fun V => mayBeFree_e V (L : Int) (n : Int))
  have l0 : ¬ (L : Int) = 0 := by omega
  have hw : IntKind.i64.wrap (L : Int) = (L : Int) := by rw [IntKind.wrap_i64]; omega
  clear h
  by_cases hmn : m = n
  · subst hmn
    clear hf
    go_enter Tryz.func122, Tryz.ntmps122
    go_wp2_with (first
      | ((with_reducible refine atSt 111 ?_); refine wp_storeB (c := #[.int .i64 0, .int .u32 0]) HI.out rfl (fr_one _ _) HF0.out _ _ (by rfl) (by rfl) (by rfl) (by rfl) ?_; intro W6 hb6 ho6; have HF6 := hide hb6; have HB6 := hide (below_only1 HB0.out ho6 (Nat.le_refl _)); clear hb6 ho6))
    refine ret_blk2 (c := #[.int .i64 0, .int .u32 0]) HI.out uFr Tryz.results122 (by rfl) (by rfl) HF6.out ?_
    exact ⟨rfl, HB6.out⟩
  · have hq : ((m : Int) == (n : Int)) = false := by simp; omega
    have hmb : mbF (L : Int) (n : Int) = false := decide_eq_false (by omega)
    rw [hmb] at HM
    clear hf hmb
    go_enter Tryz.func122, Tryz.ntmps122
    go_wp2_with (first
      | (go_at_call 114; (with_reducible refine Calls.mono (HM.out _) ?_); rintro e w4 ⟨rfl, rfl⟩)
      | ((with_reducible refine atSt 111 ?_); refine wp_storeB (c := #[.int .i64 0, .int .u32 0]) HI.out rfl (fr_one _ _) HF0.out _ _ (by rfl) (by rfl) (by rfl) (by rfl) ?_; intro W6 hb6 ho6; have HF6 := hide hb6; have HB6 := hide (below_only1 HB0.out ho6 (Nat.le_refl _)); clear hb6 ho6))
    refine ret_blk2 (c := #[.int .i64 0, .int .u32 0]) HI.out uFr Tryz.results122 (by rfl) (by rfl) HF6.out ?_
    exact ⟨rfl, HB6.out⟩
theorem Tr.only {w V : World} {t pm n : Nat} {P : Nat → List UInt8} {K : Nat} {wr : Bool} {S : List Nat} (h : Tr sv w t pm n P K wr) (ho : Only S w V) (hS : ∀ b ∈ S, ∃ c ty, Blk w b c ty ∧ (ty = 3 ∨ ty = 28 ∨ ty = 105)) : Tr sv V t pm n P K wr := by
  obtain ⟨⟨j, d, mb, l, room, L, cn, h1, h2, h3⟩, ⟨D, ⟨es, cl, he, q1, q2, q3⟩, q4, q5⟩, h5, h6⟩ := h
  have hk : ∀ {b : Nat} {c : Array Value} {ty : TypeId}, Blk w b c ty → ty ≠ 3 → ty ≠ 28 → ty ≠ 105 → b ∉ S := fun {b c ty} hb n1 n2 n3 hm => by
    obtain ⟨c', ty', hb', ht'⟩ := hS _ hm
    have := hb.symm.trans hb'
    injection this with this
    injection this with _ e _
    rcases ht' with rfl | rfl | rfl
    · exact n1 e
    · exact n2 e
    · exact n3 e
  have hmp : ∀ {b : Nat} {es : Array MapEntry} {cl : Nat}, w.heap[b]? = some (.map es cl) → b ∉ S := fun {b es cl} hb hm => by
    obtain ⟨c', ty', hb', ht'⟩ := hS _ hm
    exact blk_map hb' hb rfl
  exact ⟨⟨j, d, mb, l, room, L, cn, h1.only ho (hk h1.jr (by decide) (by decide) (by decide)) (hk h1.de.blk (by decide) (by decide) (by decide)) (hmp h1.de.mp) (hk h1.lk (by decide) (by decide) (by decide)), Blk.only h2 ho (hk h2 (by decide) (by decide) (by decide)), h3⟩, ⟨D, ⟨es, cl, ho.blk he (hmp he), q1, q2, q3⟩, q4, q5⟩, h5, h6⟩
end Go.Proofs.YthgclfhfipfknaaGreat

namespace Go.Proofs.YthgclfhfipfknaaGreat
variable {sv : Value}
open Go.ChangeShapes Go.WideShapes Go.ChangeAt Go.RowKit Go.Maps
set_option linter.unusedVariables false

theorem Blk.setOther {w : World} {b a : Nat} {c : Array Value} {ty : TypeId} (h : Blk w b c ty) (hn : b ≠ a) (o : Nat) (v : Value) : Blk (w.setCell ⟨a, o, none⟩ v) b c ty := h.only (Only.setCell w ⟨a, o, none⟩ v) (by simpa using hn)
/-- What a step leaves in the boxes. -/
def MtR (w w' : World) (A M C B L m n t : Nat) : Prop := MtB w' A M C B L m n t ∧ Only [A, M] w w'
set_option maxRecDepth 20000 in
set_option maxHeartbeats 2000000 in
theorem mt_meet (w : World) (A M C B L m n t pm : Nat) {P : Nat → List UInt8} {K : Nat} {wr : Bool} (ht : Tr sv w t pm n P K wr) (hL : L < 4294967296) (h : MtB w A M C B L m n t) (hm : m ≠ n) (h2 : 2 ≤ L) (h3 : L ≤ n) (hm2 : m ≤ 100000) :
    Calls Tryz.prog 122 #[.pointer (some ⟨A, 0, none⟩), .pointer (some ⟨M, 0, none⟩), .pointer (some ⟨C, 0, none⟩), .pointer (some ⟨B, 0, none⟩)] w fun e w' =>
      (isFree (P L) = true → e = .returned (.tuple #[.agg #[.int .i64 (L : Int), .int .u32 (linkV (P L) : Int)], .int .i64 0]) ∧ MtR w w' A M C B (linkV (P L)) (m + 1) n t) ∧
      (isFree (P L) = false → e = .returned (.tuple #[.agg #[.int .i64 0, .int .u32 0], .int .i64 8]) ∧ MtR w w' A M C B L (m + 1) n t) := by
  have HB0 := hide (below_alloc w (.cells #[.int .i64 0, .int .u32 0] 111))
  have HF0 := hide (Blk.new w #[.int .i64 0, .int .u32 0] 111)
  have cA : (w.alloc (.cells #[.int .i64 0, .int .u32 0] 111)).cell? ⟨A, 0, none⟩ = some (.int .u32 (L : Int)) := (h.a.later HB0.out).cell 0
  have cM : (w.alloc (.cells #[.int .i64 0, .int .u32 0] 111)).cell? ⟨M, 0, none⟩ = some (.int .i64 (m : Int)) := (h.m.later HB0.out).cell 0
  have cC : (w.alloc (.cells #[.int .i64 0, .int .u32 0] 111)).cell? ⟨C, 0, none⟩ = some (.int .i64 (n : Int)) := (h.c.later HB0.out).cell 0
  have fM := (h.m.later HB0.out).frozen 0
  have HI := hide infoFr
  have HMb := hide (fun V => mayBeFree_e V (L : Int) (n : Int))
  rw [show mbF (L : Int) (n : Int) = true from decide_eq_true (by omega)] at HMb
  have l0 : ¬ (L : Int) = 0 := by omega
  have hw : IntKind.i64.wrap (L : Int) = (L : Int) := by rw [IntKind.wrap_i64]; omega
  have hw1 : IntKind.i64.wrap ((m : Int) + 1) = (m : Int) + 1 := by rw [IntKind.wrap_i64]; omega
  have hq : ((m : Int) == (n : Int)) = false := by simp; omega
  have hMB := h.later HB0.out
  have nAM : A ≠ M := blk_ne h.a h.m (by decide)
  have nBM : B ≠ M := blk_ne h.b h.m (by decide)
  have nFM : w.heap.size ≠ M := Nat.ne_of_gt h.m.lt
  have nFA : w.heap.size ≠ A := Nat.ne_of_gt h.a.lt
  obtain ⟨W1, hW1⟩ : ∃ W1, W1 = (w.alloc (.cells #[.int .i64 0, .int .u32 0] 111)).setCell ⟨M, 0, none⟩ (.int .i64 ((m : Int) + 1)) := ⟨_, rfl⟩
  have ho1 : Only [M] (w.alloc (.cells #[.int .i64 0, .int .u32 0] 111)) W1 := by rw [hW1]; exact Only.setCell _ ⟨M, 0, none⟩ _
  have HMt : Hid (MtB W1 A M C B L (m + 1) n t) := by
    refine ⟨hMB.a.only ho1 (by simpa using nAM), ?_, hMB.c.only ho1 (by have := h.mc; simp; omega), hMB.b.only ho1 (by simpa using nBM), h.mc⟩
    rw [hW1]; exact hMB.m.set 0 (.int .i64 ((m : Int) + 1))
  have HTr : Hid (Tr sv W1 t pm n P K wr) := (ht.later HB0.out).only ho1 (fun b hb => by rw [List.mem_singleton.1 hb]; exact ⟨_, _, hMB.m, .inl rfl⟩)
  have HO1 : Hid (Only [A, M] w W1) := (Only.of_below HB0.out).trans (ho1.mono (by simp))
  have HF1 : Hid (Blk W1 w.heap.size #[.int .i64 0, .int .u32 0] 111) := HF0.out.only ho1 (by simpa using nFM)
  have cB1 : W1.cell? ⟨B, 0, none⟩ = some (.pointer (some ⟨t, 0, none⟩)) := HMt.out.b.cell 0
  have HPg := hide (page_e W1 _ (L : Int) (P L) 0 (PgK.inn HTr.out (by omega) h3))
  have HLn := hide (ht.len L)
  have HFl := hide (fun V => freeLink_e V (P L) (ht.len L))
  have HNe := hide (And.intro nFM nFA)
  have HCB := hide (And.intro h.c.lt h.b.lt)
  have hz := zeroP
  generalize P L = pl at *
  clear h ht hMB ho1 nAM nBM nFM nFA hm h2 h3
  subst hW1
  cases hfr : isFree pl with
  | true =>
    rw [hfr] at HFl
    generalize linkV pl = lk at *
    go_enter Tryz.func122, Tryz.ntmps122
    go_wp2_with (first
      | (go_at_call 114; (with_reducible refine Calls.mono (HMb.out _) ?_); rintro e w4 ⟨rfl, rfl⟩)
      | (go_at_call 102; (with_reducible refine Calls.mono HPg.out ?_); rintro e w5 ⟨rfl, hb⟩; have HB5 := hide (below_trans hb (below_alloc w5 (.cells (bc zs) 59))); have HN5 := hide (PAt.new w5 zs); have HS5 := hide hb.size; clear hb)
      | ((with_reducible refine atSt 59 ?_); refine wp_storeP HLn.out zs_length HN5.out _ _ (by rfl) (by rfl) (by rfl) (by rfl) ?_; intro W6 hp hb hk; have HP6 := hide hp; have HB6 := hide (hb _ _ HB5.out HS5.out); clear hp hb hk)
      | ((with_reducible refine atLd 59 ?_); refine wp_loadP HLn.out HP6.out _ (by rfl) (by rfl) (by rfl) ?_)
      | (go_at_call 123; (with_reducible refine Calls.mono (HFl.out _) ?_); rintro e w7 ⟨rfl, hb⟩; have HB7 := hide (below_trans HB6.out hb); have HM7 := hide (HMt.out.later HB7.out); have HF7 := hide (HF1.out.later HB7.out); have c7 := (HM7.out.a.cell 0).trans (show _ = some (Value.int .u32 (L : Int)) from rfl); have f7 := HM7.out.a.frozen 0; have HF8 := hide (HF7.out.setOther HNe.out.2 0 (.int .u32 (lk : Int))); clear hb)
      | ((with_reducible refine atSt 111 ?_); refine wp_storeB (c := #[.int .i64 (L : Int), .int .u32 (lk : Int)]) (z := #[.int .i64 0, .int .u32 0]) HI.out rfl (fr_one _ _) HF8.out _ _ (by rfl) (by rfl) (by rfl) (by rfl) ?_; intro W9 hb9 ho9; have HF9 := hide hb9; have HO9 := hide ho9; clear hb9 ho9))
    refine ret_blk2 (c := #[.int .i64 (L : Int), .int .u32 (lk : Int)]) HI.out uFr Tryz.results122 (by rfl) (by rfl) HF9.out ?_
    refine ⟨fun _ => ⟨rfl, ?_⟩, fun h => absurd h (by decide)⟩
    have n1 := HNe.out
    have nFC : w.heap.size ≠ C := Nat.ne_of_gt (HCB.out.1)
    have nFB : w.heap.size ≠ B := Nat.ne_of_gt (HCB.out.2)
    have nAM : A ≠ M := blk_ne HM7.out.a HM7.out.m (by decide)
    have nAC : A ≠ C := blk_ne HM7.out.a HM7.out.c (by decide)
    have nAB : A ≠ B := blk_ne HM7.out.a HM7.out.b (by decide)
    refine ⟨⟨(HM7.out.a.set 0 (.int .u32 (lk : Int))).only HO9.out (by simp; omega), (HM7.out.m.setOther (Ne.symm nAM) 0 _).only HO9.out (by simp; omega), (HM7.out.c.setOther (Ne.symm nAC) 0 _).only HO9.out (by simp; omega), (HM7.out.b.setOther (Ne.symm nAB) 0 _).only HO9.out (by simp; omega), HM7.out.mc⟩, ?_⟩
    exact ((HO1.out.then_below HB7.out).trans ((Only.setCell w7 ⟨A, 0, none⟩ (.int .u32 (lk : Int))).mono (by simp))).andThen HO9.out (fun j hj => .inr (by rw [List.mem_singleton.1 hj]; exact Nat.le_refl _))
  | false =>
    rw [hfr] at HFl
    generalize linkV pl = lk at *
    go_enter Tryz.func122, Tryz.ntmps122
    go_wp2_with (first
      | (go_at_call 114; (with_reducible refine Calls.mono (HMb.out _) ?_); rintro e w4 ⟨rfl, rfl⟩)
      | (go_at_call 102; (with_reducible refine Calls.mono HPg.out ?_); rintro e w5 ⟨rfl, hb⟩; have HB5 := hide (below_trans hb (below_alloc w5 (.cells (bc zs) 59))); have HN5 := hide (PAt.new w5 zs); have HS5 := hide hb.size; clear hb)
      | ((with_reducible refine atSt 59 ?_); refine wp_storeP HLn.out zs_length HN5.out _ _ (by rfl) (by rfl) (by rfl) (by rfl) ?_; intro W6 hp hb hk; have HP6 := hide hp; have HB6 := hide (hb _ _ HB5.out HS5.out); clear hp hb hk)
      | ((with_reducible refine atLd 59 ?_); refine wp_loadP HLn.out HP6.out _ (by rfl) (by rfl) (by rfl) ?_)
      | (go_at_call 123; (with_reducible refine Calls.mono (HFl.out _) ?_); rintro e w7 ⟨rfl, hb⟩; have HB7 := hide (below_trans HB6.out hb); have HM7 := hide (HMt.out.later HB7.out); have HF7 := hide (HF1.out.later HB7.out); clear hb)
      | ((with_reducible refine atSt 111 ?_); refine wp_storeB (c := #[.int .i64 0, .int .u32 0]) HI.out rfl (fr_one _ _) HF7.out _ _ (by rfl) (by rfl) (by rfl) (by rfl) ?_; intro W9 hb9 ho9; have HF9 := hide hb9; have HO9 := hide ho9; clear hb9 ho9))
    refine ret_blk2 (c := #[.int .i64 0, .int .u32 0]) HI.out uFr Tryz.results122 (by rfl) (by rfl) HF9.out ?_
    refine ⟨fun h => absurd h (by decide), fun _ => ⟨rfl, ?_⟩⟩
    have n1 := HNe.out
    have nFC : w.heap.size ≠ C := Nat.ne_of_gt (HCB.out.1)
    have nFB : w.heap.size ≠ B := Nat.ne_of_gt (HCB.out.2)
    refine ⟨⟨HM7.out.a.only HO9.out (by simp; omega), HM7.out.m.only HO9.out (by simp; omega), HM7.out.c.only HO9.out (by simp; omega), HM7.out.b.only HO9.out (by simp; omega), HM7.out.mc⟩, ?_⟩
    exact (HO1.out.then_below HB7.out).andThen HO9.out (fun j hj => .inr (by rw [List.mem_singleton.1 hj]; exact Nat.le_refl _))
end Go.Proofs.YthgclfhfipfknaaGreat
