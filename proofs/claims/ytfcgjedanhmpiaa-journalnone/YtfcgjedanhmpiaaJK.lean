/- The steps that lay pages aside, where there are none. -/
import Derived.Test.YtfcgjedanhmpiaaJH
namespace Go.Proofs.Ytfcgjedanhmpiaa
open Go.ChangeShapes Go.WideShapes Go.ChangeAt Go.RowKit
open Go.ChangeMaps (setBlock)
set_option linter.unusedVariables false

theorem count_j (w : World) (base b : Nat) (D : DS) (who : Nat → Nat) (R : Rep w base b D who) {r : Int} {i : Nat} (h : JI r D i) :
    Calls Try.prog 9 #[.pointer (some ⟨b, 0, none⟩)] w fun e w' => e = .returned (.int .i64 (((seenOf D nmD).length / 256 : Nat) : Int)) ∧ w.grownBy w' none := by
  have HL : Hid (Calls Try.prog 28 #[.pointer (some ⟨b, 0, none⟩), .string nmD] w fun e w' => e = .returned (.int .i64 ((seenOf D nmD).length : Nat)) ∧ w.grownBy w' none) := by
    have := len_up w base b D who R h.down nmD
    rw [← h.fl] at this
    exact this
  have hl := h.len nmD
  generalize (seenOf D nmD).length = n at HL hl ⊢
  have HLe := hideJ hl
  have e1 : (n : Int).tdiv 256 = ((n / 256 : Nat) : Int) := by rw [Int.tdiv_eq_ediv_of_nonneg (by omega)]; omega
  have e2 : IntKind.i64.wrap ((n / 256 : Nat) : Int) = ((n / 256 : Nat) : Int) := by rw [IntKind.wrap_i64]; omega
  clear R h hl
  go_enter Try.func9, Try.ntmps9
  go_wp2_with (go_at_call 28; (with_reducible refine Calls.mono HL.out ?_); rintro e w4 ⟨rfl, hg⟩; have HG := hideJ hg; clear hg)
  go_ret
  refine ⟨?_, HG.out⟩
  have e3 : wrap64 ((n : Int) / 256) = ((n / 256 : Nat) : Int) := by
    unfold wrap64
    have := HLe.out
    omega
  simpa using e3
def tailS (m old : Nat) : Nat → Stp
  | 0 => .sync nmJ
  | 1 => .put nmJ 0 (bstr (sealB m old 0 0))
  | _ => .sync nmJ

theorem three_sv {V : World} {b old c1 c2 a1 a2 a3 a4 d1 d2 m : Nat} (h1 : SV V b (.sync nmJ) (fun2 55 c1 c2)) (h2 : SV V b (.put nmJ 0 (bstr (sealB m old 0 0))) (fun4 53 a1 a2 a3 a4)) (h3 : SV V b (.sync nmJ) (fun2 55 d1 d2)) : ∀ k u, [fun2 55 c1 c2, fun4 53 a1 a2 a3 a4, fun2 55 d1 d2][k]? = some u → SV V b (tailS m old k) u
  | 0, u, h => by cases h; exact h1
  | 1, u, h => by cases h; exact h2
  | 2, u, h => by cases h; exact h3
theorem three_one {c1 c2 a1 a2 a3 a4 d1 d2 : Nat} : ∀ u ∈ [fun2 55 c1 c2, fun4 53 a1 a2 a3 a4, fun2 55 d1 d2], u.oneCell' = true := by
  intro u hu
  simp at hu
  rcases hu with rfl | rfl | rfl <;> rfl
set_option maxHeartbeats 4000000 in
set_option maxRecDepth 10000 in
theorem aside_none (w : World) (base b : Nat) (D : DS) (who : Nat → Nat) (R : Rep w base b D who) {r : Int} {i : Nat} (h : JI r D i) (count : Int) (old : Nat) (hold : old = (seenOf D nmD).length / 256) (hco : (old : Int) ≤ count ∧ count ≤ 10000) (p : Option Addr) (n cap : Nat) (N : Nat → Int) (L : Nat → List UInt8) (hp : PgA w p n N L) (hn : n ≤ 10000) (hN : ∀ j, j < n → (old : Int) < N j) :
    Calls Try.prog 26 #[.agg #[.pointer (some ⟨b, 0, none⟩)], .int .i64 count, .slice p n cap] w fun e w' => (∃ q c', e = .returned (.slice q 5 c') ∧ StA w' b q 5 (catS (renS (seenOf D nmJ)) 2 (tailS 1 old))) ∧ w.grownBy w' none := by
  have hg0 := World.grownBy_alloc w (.cells #[.pointer (some ⟨b, 0, none⟩)] 53) none
  have hb0 : Blk (w.alloc (.cells #[.pointer (some ⟨b, 0, none⟩)] 53)) w.heap.size #[.pointer (some ⟨b, 0, none⟩)] 53 := alloc_new _ _
  have ho6 : old ≤ 30 := by rw [hold]; have := h.len nmD; omega
  have HCt : Hid (∀ V, w.grownBy V none → Calls Try.prog 9 #[.pointer (some ⟨b, 0, none⟩)] V fun e w' => e = .returned (.int .i64 (old : Int)) ∧ V.grownBy w' none) := fun V hV => by rw [hold]; exact count_j V base b D who (R.keep hV) h
  have HTn : Hid (∀ V, w.grownBy V none → Calls Try.prog 37 #[.int .i64 (old : Int), .int .i64 count, .slice p n cap] V fun e w' => e = .returned (.slice none 0 0) ∧ V.grownBy w' none) := fun V hV => touched_none V old count (by omega) p n cap N L (hp.grown hV) hn hN
  have HRn : Hid (∀ V, w.grownBy V none → Calls Try.prog 36 #[.agg #[.pointer (some ⟨b, 0, none⟩)]] V fun e w' => (∃ v, e = .returned v ∧ StO w' V.heap.size b v 2 (renS (seenOf D nmJ))) ∧ V.grownBy w' none) := fun V hV => renew_j V base b D who (R.keep hV) h
  have HSy := hideJ (fun V => sync_c V b nmJ)
  have HPh : Hid (∀ V, Calls Try.prog 42 #[.agg #[.pointer (some ⟨b, 0, none⟩)], .agg #[.int .u32 1, .int .u32 (old : Int), .int .u32 0, .int .u32 0]] V fun e w' => (∃ v, e = .returned v ∧ SV w' b (.put nmJ 0 (bstr (sealB 1 old 0 0))) v) ∧ V.grownBy w' none) := fun V => putHead_j V b 1 old 0 0 (by omega) (by omega) (by omega) (by omega)
  have hw2 : IntKind.u32.wrap (old : Int) = (old : Int) := by rw [IntKind.wrap_u32]; omega
  have hw3 : IntKind.i64.wrap 1 = 1 := by rw [IntKind.wrap_i64]; rfl
  have hw4 : IntKind.u32.wrap 1 = 1 := by rw [IntKind.wrap_u32]; rfl
  have HG := hideJ hg0
  have HB := hideJ hb0
  generalize renS (seenOf D nmJ) = RS at HRn ⊢
  clear R h hg0 hb0 hp hN hold hn hco ho6
  go_enter Try.func26, Try.ntmps26
  go_wp2_with (first
    | (go_at_call 9; (with_reducible refine Calls.mono (HCt.out _ HG.out) ?_); rintro e w1 ⟨rfl, hg⟩; have HG1 := hideJ (grown_trans' HG.out hg); have HB1 := hideJ (Blk.grown HB.out hg); have cb1 := box_cell HB1.out; clear hg)
    | (go_at_call 37; (with_reducible refine Calls.mono (HTn.out _ HG1.out) ?_); rintro e w2 ⟨rfl, hg⟩; have HG2 := hideJ (grown_trans' HG1.out hg); have HB2 := hideJ (Blk.grown HB1.out hg); have cb2 := box_cell HB2.out; clear hg)
    | (go_at_call 36; (with_reducible refine Calls.mono (HRn.out _ HG2.out) ?_); rintro e w3 ⟨⟨v3, rfl, hst⟩, hg⟩; obtain ⟨p3, k3, rfl, -⟩ := hst.form; have HSt := hideJ hst; have HG3 := hideJ (grown_trans' HG2.out hg); have HB3 := hideJ (Blk.grown HB2.out hg); have HW2 := hideJ (And.intro HG2.out.size hg.size); clear hst hg cb1 cb2))
  go_loopw [9, 24] (fun sv iv wq => sv = .slice p3 2 k3 ∧ iv = .int .i64 0 ∧ wq = w3) (fun _ _ _ => 0)
  case atStart => exact ⟨rfl, rfl, rfl⟩
  case round =>
    obtain ⟨rfl, rfl, rfl⟩ := hrel
    go_wp2_with fail
    have HSG : Hid (∀ V, wr.drew.grownBy V none → V.cell? ⟨w.heap.size, 0, none⟩ = some (.pointer (some ⟨b, 0, none⟩))) := fun V hV => by
      have h1 : Blk wr.drew w.heap.size #[.pointer (some ⟨b, 0, none⟩)] 53 := HB3.out
      exact ((h1.grown hV).cell 0).trans rfl
    have HS0 := hideJ (HSG.out _ (grown_refl _))
    go_region_held3 (fun V => V.cell? ⟨w.heap.size, 0, none⟩ = some (.pointer (some ⟨b, 0, none⟩))) (first | with_reducible exact HS0.out | with_reducible exact HS1.out | with_reducible exact HS2.out | with_reducible exact HS3.out | with_reducible exact HS4.out | with_reducible exact HS5.out) (first
      | (go_at_call 42; (with_reducible refine Calls.mono (HPh.out _) ?_); rintro e y2 ⟨⟨u2, rfl, a1, a2, a3, a4, rfl, hv2⟩, hg⟩; have HV2 := hideJ (mkPut hv2); have HV1 := hideJ (HV1.out.grown hg); have HY2 := hideJ (grown_trans' HY1.out hg); have HS2 := hideJ (HSG.out _ (grown_trans' HY1.out hg)); clear hv2 hg)
      | (go_at_call 41; (with_reducible refine Calls.mono (HSy.out _) ?_); rintro e y3 ⟨⟨u3, rfl, d1, d2, rfl, hv3⟩, hg⟩; have HV3 := hideJ (mkSync hv3); have HV1 := hideJ (HV1.out.grown hg); have HV2 := hideJ (HV2.out.grown hg); have HY3 := hideJ (grown_trans' HY2.out hg); have HS3 := hideJ (HSG.out _ (grown_trans' HY2.out hg)); have HS4 := hideJ (HSG.out _ (grown_trans' (grown_trans' HY2.out hg) (World.grownBy_alloc y3 (.cells #[fun2 55 c1 c2, fun4 53 a1 a2 a3 a4, fun2 55 d1 d2] 82) none))); clear hv3 hg)
      | (go_at_call 41; (with_reducible refine Calls.mono (HSy.out _) ?_); rintro e y1 ⟨⟨u1, rfl, c1, c2, rfl, hv1⟩, hg⟩; have HV1 := hideJ (mkSync hv1); have HY1 := hideJ hg; have HS1 := hideJ (HSG.out _ hg); clear hv1 hg)
      | (refine step_appF (n := 2) (m := 3) (b := b) (base := w2.heap.size) (S := RS) [fun2 55 c1 c2, fun4 53 a1 a2 a3 a4, fun2 55 d1 d2] (S' := tailS 1 old) ((HSt.out.grown (World.grownBy_drew _)).grown HY3.out) rfl (by omega) (three_sv HV1.out HV2.out HV3.out) three_one (by omega) (Nat.le_trans HW2.out.2 HY3.out.size) _ _ (by rfl) (by rfl) (by rfl) (by rfl) ?_; intro p5 k5 w5 hst5 hap5; have HSt5 := hideJ hst5; have HAp5 := hideJ hap5; have HS5 := hideJ (box_cell (hap5.box (Blk.grown (box_drew HB3.out) HY3.out))); clear hst5 hap5))
    all_goals (try go_wp2)
    go_ret
    obtain ⟨q, c', e5, hA⟩ := HSt5.out.form
    refine ⟨⟨q, c', by rw [← e5]; rfl, hA⟩, ?_⟩
    exact HAp5.out.grown w (Nat.le_trans HW2.out.1 (Nat.le_refl _)) (grown_trans' (grown_trans' HG3.out (World.grownBy_drew _)) HY3.out)
end Go.Proofs.Ytfcgjedanhmpiaa
