/- The way back: the statement's own loop. -/
import Derived.Test.YtfcgjedanhmpiaaLH
namespace Go.Proofs.Ytfcgjedanhmpiaa
open Go.ChangeShapes Go.WideShapes Go.ChangeAt Go.RowKit
open Go.ChangeMaps (setBlock)
set_option linter.unusedVariables false

/-- Up, or down, on the way back. -/
def Sta (w V : World) (r : Int) (k : Nat) (Q : List UInt8 → List UInt8 → Prop) : Prop := ∃ D k', k' ≤ k ∧ ((Cl w V r D k' ∧ D.fuse = 0 ∧ Q (seenOf D nmD) (seenOf D nmJ)) ∨ Dw w V r D k' Q)
theorem hot_cl (w V : World) {r : Int} {D : DS} {i : Nat} (h : Cl w V r D i) (hc : Cd (seenOf D nmJ)) : Calls Try.prog 10 #[.pointer (some ⟨w.heap.size + 1, 0, none⟩)] V fun e w' => e = .returned (.bool false) ∧ V.grownBy w' none := by
  obtain ⟨who, R⟩ := h.rep
  exact hot_j V _ _ D who R h.ji false (by rw [hc.hd.1]; rfl)
theorem coA_nil (w : World) : CoA w none [] := fun j x h => by simp at h

set_option maxHeartbeats 16000000 in
set_option maxRecDepth 20000 in
theorem back_walk (w V : World) {r : Int} (hr : 20000 ≤ r) {db new : List UInt8} {old m : Nat} {tl : List Nat} {T : Nat → Nat} {P : Nat → List UInt8} (g : Gd db old m tl T P) {k : Nat} (hk : k ≤ 5000) (hst : Sta w V r k (Good db new old m tl T P)) (p : Option Addr) (nw cw : Nat) (av : Nat → Int) (pc : Nat → Option Addr) (xs : Nat → List Int) (cc : Nat → Nat) (hwa : WaA w p nw av pc xs cc) (hnw : nw ≤ 6) :
    Calls Try.prog 19 #[.pointer (some ⟨w.heap.size + 1, 0, none⟩), .slice p nw cw] V fun e w' => e = .returned (.bool true) ∧ (∃ D' i', Cl w w' r D' i' ∧ i' ≤ k + 2000 ∧ Cd (seenOf D' nmJ) ∧ (seenOf D' nmD = db ∨ seenOf D' nmD = new)) ∧ Rows2 V w' := by
  obtain ⟨Q, hQ⟩ : ∃ Q, Q = Good db new old m tl T P := ⟨_, rfl⟩
  rw [← hQ] at hst
  have HRc : Hid (∀ U D i, Cl w U r D i → i ≤ 15000 → Q (seenOf D nmD) (seenOf D nmJ) → ∃ (bb : Bool) (x : Int), (x = 0 ∨ x = 7 ∧ D.fuse ≠ 0) ∧ Calls Try.prog 7 #[.pointer (some ⟨w.heap.size + 1, 0, none⟩)] U fun e w' => e = .returned (.tuple #[.bool bb, .int .i64 x]) ∧ Rx w U w' r D i db new old m tl T P x) := fun U D i h hi hq => by rw [hQ] at hq; exact rec_x w U hr h hi g hq
  have HQc : Hid (∀ X Y, Cd Y → (X = db ∨ X = new) → Q X Y) := fun X Y hc hx => by
    rw [hQ]
    rcases hx with e | e
    · exact .inl ⟨hc, e⟩
    · exact .inr (.inr ⟨hc, e⟩)
  have HQe := hideJ hQ
  have HS0 := hideJ hst
  have HW := hideJ hwa
  have HK := hideJ (And.intro hk hnw)
  have HDc := hideJ (fun U D i h => down_cl w U (r := r) (D := D) (i := i) h)
  have HDd := hideJ (fun U D i h => down_dw w U (r := r) (D := D) (i := i) (Q := Q) h)
  have HRs := hideJ (fun U D i h hi q c x hx => restart_x w U (r := r) (D := D) (i := i) (Q := Q) h hi q c x hx)
  have HFc := hideJ (fun U D i h n hn => fuse_cl w U (r := r) (D := D) (i := i) h n hn)
  have HFd := hideJ (fun U D i h n hn => fuse_dw w U (r := r) (D := D) (i := i) (Q := Q) h n hn)
  have HHt := hideJ (fun U D i h hc => hot_cl w U (r := r) (D := D) (i := i) h hc)
  have HNl := hideJ (coA_nil w)
  clear hst hwa hk hnw hQ g hr
  go_enter Try.func19, Try.ntmps19
  go_wp2
  go_loopw [5] (fun iv wr => ∃ i : Nat, i ≤ nw ∧ iv = .int .i64 (i : Int) ∧ Sta w wr r (k + 200 * i) Q ∧ Rows2 V wr) (fun iv _ => nw - (intOf iv).toNat)
  case atStart => exact ⟨0, Nat.zero_le _, rfl, HS0.out, Rows2.refl V⟩
  case round =>
    obtain ⟨i, hi, rfl, ⟨D, k', hk', hD⟩, hrows⟩ := hrel
    have HRo := hideJ hrows
    have HKk := hideJ hk'
    clear hrows hk'
    by_cases hlt : i < nw
    · have m1 : (i : Int) < (nw : Int) := by omega
      have m0 : (0 : Int) ≤ (i : Int) := by omega
      have hw1 : IntKind.i64.wrap ((i : Int) + 1) = (i : Int) + 1 := by have := HK.out; rw [IntKind.wrap_i64]; omega
      have HJ := hideJ hlt
      obtain ⟨b, o, rfl, hcells⟩ := HW.out (by omega)
      have HCl := hideJ (fun U (hb : Below w.heap.size w U) => And.intro (below_cell hb (hcells i hlt).2.1) (below_cell hb (hcells i hlt).2.2.1))
      have HCo := hideJ (hcells i hlt).2.2.2
      have HAv := hideJ (hcells i hlt).1
      clear hcells
      rcases hD with ⟨hcl, hfz, hq⟩ | hdw
      · have HC1 := hideJ hcl
        have HQ1 := hideJ hq
        have hc1 := (HCl.out wr hcl.bel).1
        have hc2 := (HCl.out wr hcl.bel).2
        have HKa : Hid (k' ≤ 15000) := by show k' ≤ 15000; have := HKk.out; have := HK.out; have := HJ.out; omega
        clear hcl hq hfz
        go_upto_region 8 with (first
          | (go_at_call 17; (with_reducible refine Calls.mono (HDc.out _ _ _ HC1.out) ?_); rintro e w1 ⟨rfl, rfl⟩)
          | (go_at_call 16; (with_reducible refine Calls.mono (HFc.out _ _ _ HC1.out _ HAv.out) ?_); rintro e w2 ⟨rfl, ⟨D2, h2, hf2, hs2⟩, hr2⟩; have HC2 := hideJ h2; have HQ2 := hideJ (show Q (seenOf D2 nmD) (seenOf D2 nmJ) by rw [hs2]; exact HQ1.out); have HRo2 := hideJ (HRo.out.trans hr2); clear h2 hf2 hs2 hr2 hc1 hc2)
          | (obtain ⟨bb, x, hx, hcall⟩ := HRc.out _ _ _ HC2.out HKa.out HQ2.out; go_at_call 7; (with_reducible refine Calls.mono hcall ?_); rintro e w3 ⟨rfl, hrx⟩; have HRx := hideJ hrx; have HX := hideJ hx; clear hrx hx hcall))
        have HRo3 := hideJ (HRo2.out.trans HRx.out.rows)
        rcases HRx.out.how with ⟨rfl, D3, i3, h3, hi3, hc3, hd3⟩ | ⟨rfl, hnz, D3, i3, h3, hi3⟩
        · have HC3 := hideJ h3
          have HQ3 := hideJ (HQc.out _ _ hc3 hd3)
          have HK3 : Hid (i3 ≤ k + 200 * (i + 1)) := by show i3 ≤ k + 200 * (i + 1); have := HKk.out; omega
          clear h3 hi3 hc3 hd3
          go_wp2_with (first
            | (go_at_call 16; (with_reducible refine Calls.mono (HFc.out _ _ _ HC3.out 0 (by decide)) ?_); rintro e w4 ⟨rfl, ⟨D4, h4, hf4, hs4⟩, hr4⟩; have HC4 := hideJ h4; have HF4 := hideJ hf4; have HS4 := hideJ hs4; have HRo4 := hideJ (HRo3.out.trans hr4); clear h4 hf4 hs4 hr4))
          refine ⟨⟨i + 1, HJ.out, rfl, ⟨D4, i3, HK3.out, .inl ⟨HC4.out, HF4.out, by rw [HS4.out]; exact HQ3.out⟩⟩, HRo4.out⟩, ?_⟩
          simp only [intOf]; have := HJ.out; omega
        · have HC3 := hideJ (show Dw w w3 r D3 i3 Q by rw [HQe.out]; exact h3)
          have HK3 : Hid (i3 ≤ k + 200 * (i + 1)) := by show i3 ≤ k + 200 * (i + 1); have := HKk.out; omega
          clear h3 hi3 hnz
          go_wp2_with (first
            | (go_at_call 16; (with_reducible refine Calls.mono (HFd.out _ _ _ HC3.out 0 (by decide)) ?_); rintro e w4 ⟨rfl, ⟨D4, h4⟩, hr4⟩; have HC4 := hideJ h4; have HRo4 := hideJ (HRo3.out.trans hr4); clear h4 hr4))
          refine ⟨⟨i + 1, HJ.out, rfl, ⟨D4, i3, HK3.out, .inr HC4.out⟩, HRo4.out⟩, ?_⟩
          simp only [intOf]; have := HJ.out; omega
      · have HC0 := hideJ hdw
        have hc1 := (HCl.out wr hdw.bel).1
        have hc2 := (HCl.out wr hdw.bel).2
        have HKb : Hid (k' ≤ 15000) := by show k' ≤ 15000; have := HKk.out; have := HK.out; have := HJ.out; omega
        have HKa : Hid (k' + 1 ≤ 15000) := by show k' + 1 ≤ 15000; have := HKk.out; have := HK.out; have := HJ.out; omega
        clear hdw
        go_upto_region 8 with (first
          | (go_at_call 17; (with_reducible refine Calls.mono (HDd.out _ _ _ HC0.out) ?_); rintro e w1 ⟨rfl, rfl⟩)
          | (go_at_call 32; (with_reducible refine Calls.mono (HRs.out _ _ _ HC0.out (by have := HKb.out; omega) _ _ _ HCo.out) ?_); rintro e w1 ⟨rfl, D1, h1, hf1, hq1, hr1⟩; have HC1 := hideJ h1; have HQ1 := hideJ hq1; have HRo1 := hideJ (HRo.out.trans hr1); have hc3 := (HCl.out w1 h1.bel).1; clear h1 hf1 hq1 hr1 hc1 hc2)
          | (go_at_call 16; (with_reducible refine Calls.mono (HFc.out _ _ _ HC1.out _ HAv.out) ?_); rintro e w2 ⟨rfl, ⟨D2, h2, hf2, hs2⟩, hr2⟩; have HC2 := hideJ h2; have HQ2 := hideJ (show Q (seenOf D2 nmD) (seenOf D2 nmJ) by rw [hs2]; exact HQ1.out); have HRo2 := hideJ (HRo1.out.trans hr2); clear h2 hf2 hs2 hr2 hc3)
          | (obtain ⟨bb, x, hx, hcall⟩ := HRc.out _ _ _ HC2.out HKa.out HQ2.out; go_at_call 7; (with_reducible refine Calls.mono hcall ?_); rintro e w3 ⟨rfl, hrx⟩; have HRx := hideJ hrx; have HX := hideJ hx; clear hrx hx hcall))
        have HRo3 := hideJ (HRo2.out.trans HRx.out.rows)
        rcases HRx.out.how with ⟨rfl, D3, i3, h3, hi3, hc3, hd3⟩ | ⟨rfl, hnz, D3, i3, h3, hi3⟩
        · have HC3 := hideJ h3
          have HQ3 := hideJ (HQc.out _ _ hc3 hd3)
          have HK3 : Hid (i3 ≤ k + 200 * (i + 1)) := by show i3 ≤ k + 200 * (i + 1); have := HKk.out; omega
          clear h3 hi3 hc3 hd3
          go_wp2_with (first
            | (go_at_call 16; (with_reducible refine Calls.mono (HFc.out _ _ _ HC3.out 0 (by decide)) ?_); rintro e w4 ⟨rfl, ⟨D4, h4, hf4, hs4⟩, hr4⟩; have HC4 := hideJ h4; have HF4 := hideJ hf4; have HS4 := hideJ hs4; have HRo4 := hideJ (HRo3.out.trans hr4); clear h4 hf4 hs4 hr4))
          refine ⟨⟨i + 1, HJ.out, rfl, ⟨D4, i3, HK3.out, .inl ⟨HC4.out, HF4.out, by rw [HS4.out]; exact HQ3.out⟩⟩, HRo4.out⟩, ?_⟩
          simp only [intOf]; have := HJ.out; omega
        · have HC3 := hideJ (show Dw w w3 r D3 i3 Q by rw [HQe.out]; exact h3)
          have HK3 : Hid (i3 ≤ k + 200 * (i + 1)) := by show i3 ≤ k + 200 * (i + 1); have := HKk.out; omega
          clear h3 hi3 hnz
          go_wp2_with (first
            | (go_at_call 16; (with_reducible refine Calls.mono (HFd.out _ _ _ HC3.out 0 (by decide)) ?_); rintro e w4 ⟨rfl, ⟨D4, h4⟩, hr4⟩; have HC4 := hideJ h4; have HRo4 := hideJ (HRo3.out.trans hr4); clear h4 hr4))
          refine ⟨⟨i + 1, HJ.out, rfl, ⟨D4, i3, HK3.out, .inr HC4.out⟩, HRo4.out⟩, ?_⟩
          simp only [intOf]; have := HJ.out; omega
    · obtain rfl : i = nw := by omega
      have HKa : Hid (k' + 1 ≤ 15000) := by show k' + 1 ≤ 15000; have := HKk.out; have := HK.out; omega
      rcases hD with ⟨hcl, hfz, hq⟩ | hdw
      · have HC1 := hideJ hcl
        obtain ⟨bb, x, hx, hcall⟩ := HRc.out _ _ _ hcl (by have := HKa.out; omega) hq
        obtain rfl : x = 0 := by
          rcases hx with e | ⟨_, e⟩
          · exact e
          · exact absurd hfz e
        have HCa := hideJ hcall
        clear hcl hq hfz hx hcall
        go_upto_region 14 with (first
          | (go_at_call 17; (with_reducible refine Calls.mono (HDc.out _ _ _ HC1.out) ?_); rintro e w1 ⟨rfl, rfl⟩)
          | (go_at_call 7; (with_reducible refine Calls.mono HCa.out ?_); rintro e w3 ⟨rfl, hrx⟩; have HRx := hideJ hrx; clear hrx))
        have HRo3 := hideJ (HRo.out.trans HRx.out.rows)
        rcases HRx.out.how with ⟨_, D3, i3, h3, hi3, hc3, hd3⟩ | ⟨e, _⟩
        · have HC3 := hideJ h3
          have HCd := hideJ hc3
          have HD3 := hideJ (And.intro hd3 hi3)
          clear h3 hi3 hc3 hd3
          go_wp2_with (first
            | (go_at_call 10; (with_reducible refine Calls.mono (HHt.out _ _ _ HC3.out HCd.out) ?_); rintro e w4 ⟨rfl, hg⟩; have HC4 := hideJ (HC3.out.grown hg); have HRo4 := hideJ (HRo3.out.trans (Rows2.grown hg)); clear hg))
          go_ret
          exact ⟨rfl, ⟨D3, i3, HC4.out, by have := HD3.out.2; have := HKk.out; have := HK.out; omega, HCd.out, HD3.out.1⟩, HRo4.out⟩
        · exact absurd e (by decide)
      · have HC0 := hideJ hdw
        clear hdw
        go_upto_region 13 with (first
          | (go_at_call 17; (with_reducible refine Calls.mono (HDd.out _ _ _ HC0.out) ?_); rintro e w1 ⟨rfl, rfl⟩)
          | (go_at_call 32; (with_reducible refine Calls.mono (HRs.out _ _ _ HC0.out (by have := HKa.out; omega) none 0 [] HNl.out) ?_); rintro e w1 ⟨rfl, D1, h1, hf1, hq1, hr1⟩; have HC1 := hideJ h1; have HF1 := hideJ hf1; have HQ1 := hideJ hq1; have HRo1 := hideJ (HRo.out.trans hr1); clear h1 hf1 hq1 hr1))
        obtain ⟨bb, x, hx, hcall⟩ := HRc.out _ _ _ HC1.out HKa.out HQ1.out
        obtain rfl : x = 0 := by
          rcases hx with e | ⟨_, e⟩
          · exact e
          · exact absurd HF1.out e
        have HCa := hideJ hcall
        clear hx hcall
        go_upto_region 14 with (first
          | (go_at_call 7; (with_reducible refine Calls.mono HCa.out ?_); rintro e w3 ⟨rfl, hrx⟩; have HRx := hideJ hrx; clear hrx))
        have HRo3 := hideJ (HRo1.out.trans HRx.out.rows)
        rcases HRx.out.how with ⟨_, D3, i3, h3, hi3, hc3, hd3⟩ | ⟨e, _⟩
        · have HC3 := hideJ h3
          have HCd := hideJ hc3
          have HD3 := hideJ (And.intro hd3 hi3)
          clear h3 hi3 hc3 hd3
          go_wp2_with (first
            | (go_at_call 10; (with_reducible refine Calls.mono (HHt.out _ _ _ HC3.out HCd.out) ?_); rintro e w4 ⟨rfl, hg⟩; have HC4 := hideJ (HC3.out.grown hg); have HRo4 := hideJ (HRo3.out.trans (Rows2.grown hg)); clear hg))
          go_ret
          exact ⟨rfl, ⟨D3, i3, HC4.out, by have := HD3.out.2; have := HKk.out; have := HK.out; omega, HCd.out, HD3.out.1⟩, HRo4.out⟩
        · exact absurd e (by decide)
end Go.Proofs.Ytfcgjedanhmpiaa
