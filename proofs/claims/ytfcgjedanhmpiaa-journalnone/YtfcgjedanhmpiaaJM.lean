/- Hot; Commit, where nothing is laid aside. -/
import Derived.Test.YtfcgjedanhmpiaaJL
namespace Go.Proofs.Ytfcgjedanhmpiaa
open Go.ChangeShapes Go.WideShapes Go.ChangeAt Go.RowKit
open Go.ChangeMaps (setBlock)
set_option linter.unusedVariables false

theorem okT53 : OkT 53 := by unfold OkT; decide
set_option maxRecDepth 20000 in
theorem hot_j (w : World) (base b : Nat) (D : DS) (who : Nat → Nat) (R : Rep w base b D who) {r : Int} {i : Nat} (h : JI r D i) (x : Bool) (hx : x = decide (hdw (seenOf D nmJ) 0 ≠ 0)) :
    Calls Try.prog 10 #[.pointer (some ⟨b, 0, none⟩)] w fun e w' => e = .returned (.bool x) ∧ w.grownBy w' none := by
  have HH := hideJ (head_j w base b D who R h)
  rw [hd_eq] at HH
  have HX : Hid (∀ y, y = (((hdw (seenOf D nmJ) 0 : Nat) : Int) != 0) → y = x) := fun y hy => by
    rw [hy, hx]
    by_cases e : hdw (seenOf D nmJ) 0 = 0
    · rw [e]; rfl
    · have : ((hdw (seenOf D nmJ) 0 : Nat) : Int) ≠ 0 := by omega
      simp [e]
  generalize hdw (seenOf D nmJ) 0 = a at HH HX
  generalize hdw (seenOf D nmJ) 1 = a1 at HH
  generalize hdw (seenOf D nmJ) 2 = a2 at HH
  generalize hdw (seenOf D nmJ) 3 = a3 at HH
  have hix : ∀ V, (Instr.index 63 (.agg #[.int .u32 (a : Int), .int .u32 (a1 : Int), .int .u32 (a2 : Int), .int .u32 (a3 : Int)]) (.int .i64 0)).run Try.prog V = .ok (.int .u32 (a : Int)) V := fun V => by
    simp [Instr.index, run_underlying Try.underlying63, asIntOf, go_sem]
  clear R h hx
  go_enter Try.func10, Try.ntmps10
  go_wp2_with (go_at_call 29; (with_reducible refine Calls.mono HH.out ?_); rintro e w4 ⟨rfl, hg⟩; have HG := hideJ hg; clear hg)
  go_ret
  refine ⟨?_, HG.out⟩
  rw [← HX.out _ rfl]
  rfl
/-- What all steps make, if each has room. -/
theorem Far.all {r : Int} {f : Vw} {S : Nat → Stp} {n k : Nat} {e : Int} (h : Far r f S n k e) (hf : ∀ j, j < n → (S j).fits r (vw f S j)) : k = n ∧ e = 0 := by
  rcases h.2.2 with h | ⟨h1, h2, _⟩
  · exact h
  · exact absurd (hf k h1) h2

set_option maxHeartbeats 4000000 in
theorem commit_none (w : World) (base b : Nat) (D : DS) (who : Nat → Nat) (R : Rep w base b D who) {r : Int} {i : Nat} (h : JI r D i) (count old : Nat) (hold : old = (seenOf D nmD).length / 256) (p : Option Addr) (n cap : Nat) (N : Nat → Nat) (L : Nat → List UInt8) (hp : PgA w p n (fun k => (N k : Int)) L) (hn : n ≤ 900) (hi : i + n + 9 ≤ 20000)
    (hmay : MayF old count n (fun k => (N k : Int))) (hcold : hdw (seenOf D nmJ) 0 = 0) (hco : old ≤ count ∧ count ≤ 5000) (hN : ∀ j, j < n → old < N j ∧ 1 ≤ N j ∧ N j ≤ 5000)
    (h1 : ∀ k, k < 5 → (catS (renS (seenOf D nmJ)) 2 (tailS 1 old) k).ok (vw (seenOf D) (catS (renS (seenOf D nmJ)) 2 (tailS 1 old)) k) ∧ (catS (renS (seenOf D nmJ)) 2 (tailS 1 old) k).fits r (vw (seenOf D) (catS (renS (seenOf D nmJ)) 2 (tailS 1 old)) k))
    (h2 : ∀ k, k < n + 4 → (catS (pgS N L) n (endS count) k).ok (vw (vw (seenOf D) (catS (renS (seenOf D nmJ)) 2 (tailS 1 old)) 5) (catS (pgS N L) n (endS count)) k) ∧ (catS (pgS N L) n (endS count) k).fits r (vw (vw (seenOf D) (catS (renS (seenOf D nmJ)) 2 (tailS 1 old)) 5) (catS (pgS N L) n (endS count)) k)) :
    Calls Try.prog 8 #[.pointer (some ⟨b, 0, none⟩), .int .i64 (count : Int), .slice p n cap] w fun e w' => e = .returned (.int .i64 0) ∧ ∃ D' who', RM w D w' base b D' who' ∧ JI r D' (i + 5 + (n + 4)) ∧ seenOf D' = vw (vw (seenOf D) (catS (renS (seenOf D nmJ)) 2 (tailS 1 old)) 5) (catS (pgS N L) n (endS count)) (n + 4) := by
  have ho6 : old ≤ 30 := by rw [hold]; have := h.len nmD; omega
  have HG0 : Hid (w.grownBy (w.alloc (.cells #[.pointer (some ⟨b, 0, none⟩)] 53)) none) := World.grownBy_alloc w (.cells #[.pointer (some ⟨b, 0, none⟩)] 53) none
  have HB0 : Hid (Blk (w.alloc (.cells #[.pointer (some ⟨b, 0, none⟩)] 53)) w.heap.size #[.pointer (some ⟨b, 0, none⟩)] 53) := alloc_new _ _
  have HRf := hideJ (fun V (hV : w.grownBy V none) => refusal_j V base b D who (R.keep hV) h)
  have HCt : Hid (∀ V, w.grownBy V none → Calls Try.prog 9 #[.pointer (some ⟨b, 0, none⟩)] V fun e w' => e = .returned (.int .i64 (old : Int)) ∧ V.grownBy w' none) := fun V hV => by rw [hold]; exact count_j V base b D who (R.keep hV) h
  have HMf : Hid (∀ V, w.grownBy V none → Calls Try.prog 24 #[.int .i64 (old : Int), .int .i64 (count : Int), .slice p n cap] V fun e w' => e = .returned (.bool true) ∧ V.grownBy w' none) := fun V hV => by
    have := mayFollow_j V (old : Int) (count : Int) (by omega) p n cap (fun k => (N k : Int)) L (hp.grown hV) (by omega)
    rw [mayB_iff.2 hmay] at this
    exact this
  have HHt := hideJ (fun V (hV : w.grownBy V none) => hot_j V base b D who (R.keep hV) h false (by rw [hcold]; rfl))
  have HAs := hideJ (fun V (hV : w.grownBy V none) => aside_none V base b D who (R.keep hV) h (count : Int) old hold (by omega) p n cap (fun k => (N k : Int)) L (hp.grown hV) (by omega) (fun j hj => by have := hN j hj; omega))
  obtain ⟨S1, hS1⟩ : ∃ S1, S1 = catS (renS (seenOf D nmJ)) 2 (tailS 1 old) := ⟨_, rfl⟩
  rw [← hS1] at HAs h1 h2 ⊢
  obtain ⟨S2, hS2⟩ : ∃ S2, S2 = catS (pgS N L) n (endS count) := ⟨_, rfl⟩
  rw [← hS2] at h2 ⊢
  have HDo1 : Hid (∀ V q c', w.grownBy V none → StA V b q 5 S1 → Calls Try.prog 25 #[.slice q 5 c'] V fun e w' => e = .returned (.int .i64 0) ∧ ∃ D' who', RM V D w' base b D' who' ∧ JI r D' (i + 5) ∧ seenOf D' = vw (seenOf D) S1 5) := fun V q c' hV hst => by
    refine (do_any V base b D who (R.keep hV) h q 5 c' S1 hst (by omega) (fun k hk _ => (h1 k hk).1)).mono ?_
    rintro e w' ⟨k, x, rfl, hF, hD⟩
    obtain ⟨rfl, rfl⟩ := hF.all (fun j hj => (h1 j hj).2)
    exact ⟨rfl, hD⟩
  have HCh := hideJ (fun V (hV : PgA V p n (fun k => (N k : Int)) L) => change_j V b count (by omega) p n cap N L hV hn (fun j hj => ⟨(hN j hj).2.1, (hN j hj).2.2⟩))
  rw [← hS2] at HCh
  have HDo2 : Hid (∀ V D1 who1 q c', Rep V base b D1 who1 → JI r D1 (i + 5) → seenOf D1 = vw (seenOf D) S1 5 → StA V b q (n + 4) S2 → Calls Try.prog 25 #[.slice q (n + 4) c'] V fun e w' => e = .returned (.int .i64 0) ∧ ∃ D' who', RM V D1 w' base b D' who' ∧ JI r D' (i + 5 + (n + 4)) ∧ seenOf D' = vw (vw (seenOf D) S1 5) S2 (n + 4)) := fun V D1 who1 q c' hR hJ hs hst => by
    refine (do_any V base b D1 who1 hR hJ q (n + 4) c' S2 hst (by omega) (fun k hk _ => by rw [hs]; exact (h2 k hk).1)).mono ?_
    rintro e w' ⟨k, x, rfl, hF, hD⟩
    rw [hs] at hF
    obtain ⟨rfl, rfl⟩ := hF.all (fun j hj => (h2 j hj).2)
    rw [hs] at hD
    exact ⟨rfl, hD⟩
  have HR := hideJ R
  have HP := hideJ hp
  clear R h hp hmay hcold h1 h2 hold hS1 hS2 hN hn hi hco ho6
  go_enter Try.func8, Try.ntmps8
  go_wp2_with (first
    | (go_at_call 21; (with_reducible refine Calls.mono (HRf.out _ HG0.out) ?_); rintro e w1 ⟨rfl, hg⟩; have HG1 := hideJ (grown_trans' HG0.out hg); have HB1 := hideJ (Blk.grown HB0.out hg); clear hg)
    | (go_at_call 9; (with_reducible refine Calls.mono (HCt.out _ HG1.out) ?_); rintro e w2 ⟨rfl, hg⟩; have HG2 := hideJ (grown_trans' HG1.out hg); have HB2 := hideJ (Blk.grown HB1.out hg); clear hg)
    | (go_at_call 24; (with_reducible refine Calls.mono (HMf.out _ HG2.out) ?_); rintro e w3 ⟨rfl, hg⟩; have HG3 := hideJ (grown_trans' HG2.out hg); have HB3 := hideJ (Blk.grown HB2.out hg); clear hg)
    | (go_at_call 10; (with_reducible refine Calls.mono (HHt.out _ HG3.out) ?_); rintro e w4 ⟨rfl, hg⟩; have HG4 := hideJ (grown_trans' HG3.out hg); have HB4 := hideJ (Blk.grown HB3.out hg); have cb4 := box_cell HB4.out; clear hg)
    | (go_at_call 26; (with_reducible refine Calls.mono (HAs.out _ HG4.out) ?_); rintro e w5 ⟨⟨q5, c5, rfl, hst5⟩, hg⟩; have HG5 := hideJ (grown_trans' HG4.out hg); have HB5 := hideJ (Blk.grown HB4.out hg); have HS5 := hideJ hst5; clear hg hst5 cb4)
    | (go_at_call 25; (with_reducible refine Calls.mono (HDo1.out _ _ _ HG5.out HS5.out) ?_); rintro e w6 ⟨rfl, D6, who6, hR6, hJ6, hs6⟩; have HR6 := hideJ (((RM.start HR.out).grown HG5.out).trans hR6); have HJ6 := hideJ (And.intro hJ6 hs6); have HB6 := hideJ (hR6.blk (HR.out.keep HG5.out) HB5.out okT53); have cb6 := box_cell HB6.out; clear hR6 hJ6 hs6)
    | (go_at_call 27; (with_reducible refine Calls.mono (HCh.out _ (HP.out.moved HR.out HR6.out)) ?_); rintro e w7 ⟨⟨q7, c7, rfl, hst7⟩, hg⟩; have HR7 := hideJ (HR6.out.grown hg); have HS7 := hideJ hst7; clear hg hst7)
    | (go_at_call 25; (with_reducible refine Calls.mono (HDo2.out _ _ _ _ _ HR7.out.rep HJ6.out.1 HJ6.out.2 HS7.out) ?_); rintro e w8 ⟨rfl, D8, who8, hR8, hJ8, hs8⟩; have HR8 := hideJ (HR7.out.trans hR8); have HJ8 := hideJ (And.intro hJ8 hs8); clear hR8 hJ8 hs8))
  go_ret
  exact ⟨rfl, D8, who8, HR8.out, HJ8.out.1, HJ8.out.2⟩
theorem commit_arg (w : World) (base b : Nat) (D : DS) (who : Nat → Nat) (R : Rep w base b D who) {r : Int} {i : Nat} (h : JI r D i) (count : Int) (old : Nat) (hold : old = (seenOf D nmD).length / 256) (p : Option Addr) (n cap : Nat) (N : Nat → Int) (L : Nat → List UInt8) (hp : PgA w p n N L) (hn : n ≤ 10000)
    (hmay : ¬ MayF old count n N) :
    Calls Try.prog 8 #[.pointer (some ⟨b, 0, none⟩), .int .i64 count, .slice p n cap] w fun e w' => e = .returned (.int .i64 2) ∧ w.grownBy w' none := by
  have ho6 : old ≤ 30 := by rw [hold]; have := h.len nmD; omega
  have HG0 : Hid (w.grownBy (w.alloc (.cells #[.pointer (some ⟨b, 0, none⟩)] 53)) none) := World.grownBy_alloc w (.cells #[.pointer (some ⟨b, 0, none⟩)] 53) none
  have HRf := hideJ (fun V (hV : w.grownBy V none) => refusal_j V base b D who (R.keep hV) h)
  have HCt : Hid (∀ V, w.grownBy V none → Calls Try.prog 9 #[.pointer (some ⟨b, 0, none⟩)] V fun e w' => e = .returned (.int .i64 (old : Int)) ∧ V.grownBy w' none) := fun V hV => by rw [hold]; exact count_j V base b D who (R.keep hV) h
  have HMf : Hid (∀ V, w.grownBy V none → Calls Try.prog 24 #[.int .i64 (old : Int), .int .i64 count, .slice p n cap] V fun e w' => e = .returned (.bool false) ∧ V.grownBy w' none) := fun V hV => by
    have := mayFollow_j V (old : Int) count (by omega) p n cap N L (hp.grown hV) (by omega)
    rw [mayB_not hmay] at this
    exact this
  clear R h hp hmay hold hn ho6
  go_enter Try.func8, Try.ntmps8
  go_wp2_with (first
    | (go_at_call 21; (with_reducible refine Calls.mono (HRf.out _ HG0.out) ?_); rintro e w1 ⟨rfl, hg⟩; have HG1 := hideJ (grown_trans' HG0.out hg); clear hg)
    | (go_at_call 9; (with_reducible refine Calls.mono (HCt.out _ HG1.out) ?_); rintro e w2 ⟨rfl, hg⟩; have HG2 := hideJ (grown_trans' HG1.out hg); clear hg)
    | (go_at_call 24; (with_reducible refine Calls.mono (HMf.out _ HG2.out) ?_); rintro e w3 ⟨rfl, hg⟩; have HG3 := hideJ (grown_trans' HG2.out hg); clear hg))
  go_ret
  exact ⟨rfl, HG3.out⟩
end Go.Proofs.Ytfcgjedanhmpiaa
