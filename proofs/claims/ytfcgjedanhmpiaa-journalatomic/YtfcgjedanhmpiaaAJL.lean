/- The steps that lay pages aside, where there are none. -/
/- The steps that change the database. -/
import Derived.Test.YtfcgjedanhmpiaaAJH
namespace Go.Proofs.Ytfcgjedanhmpiaa
open Go.ChangeShapes Go.WideShapes Go.ChangeAt Go.RowKit
open Go.ChangeMaps (setBlock)
set_option linter.unusedVariables false

theorem count_j (w : World) (base b : Nat) (D : DS) (who : Nat → Nat) (R : Rep w base b D who) {r : Int} {i : Nat} (h : JI r D i) :
    Calls Try.prog 9 #[.pointer (some ⟨b, 0, none⟩)] w fun e w' => e = .returned (.int .i64 (((seenOf D nmD).length / 256 : Nat) : Int)) ∧ w.grownBy w' none := by
  have HL : Hid (Calls Try.prog 28 #[.pointer (some ⟨b, 0, none⟩), .string nmD] w fun e w' => e = .returned (.int .i64 ((seenOf D nmD).length : Nat)) ∧ w.grownBy w' none) := by
    have := len_up w base b D who R h.down nmD
    rw [← h.fl] at this
    exact this
  have hl := h.len nmD
  generalize (seenOf D nmD).length = n at HL hl ⊢
  have HLe := hideJ hl
  have e1 : (n : Int).tdiv 256 = ((n / 256 : Nat) : Int) := by rw [Int.tdiv_eq_ediv_of_nonneg (by omega)]; omega
  have e2 : IntKind.i64.wrap ((n / 256 : Nat) : Int) = ((n / 256 : Nat) : Int) := by rw [IntKind.wrap_i64]; omega
  clear R h hl
  go_enter Try.func9, Try.ntmps9
  go_wp2_with (go_at_call 28; (with_reducible refine Calls.mono HL.out ?_); rintro e w4 ⟨rfl, hg⟩; have HG := hideJ hg; clear hg)
  go_ret
  refine ⟨?_, HG.out⟩
  have e3 : wrap64 ((n : Int) / 256) = ((n / 256 : Nat) : Int) := by
    unfold wrap64
    have := HLe.out
    omega
  simpa using e3
def tailS (m old : Nat) : Nat → Stp
  | 0 => .sync nmJ
  | 1 => .put nmJ 0 (bstr (sealB m old 0 0))
  | _ => .sync nmJ

theorem three_sv {V : World} {b old c1 c2 a1 a2 a3 a4 d1 d2 m : Nat} (h1 : SV V b (.sync nmJ) (fun2 55 c1 c2)) (h2 : SV V b (.put nmJ 0 (bstr (sealB m old 0 0))) (fun4 53 a1 a2 a3 a4)) (h3 : SV V b (.sync nmJ) (fun2 55 d1 d2)) : ∀ k u, [fun2 55 c1 c2, fun4 53 a1 a2 a3 a4, fun2 55 d1 d2][k]? = some u → SV V b (tailS m old k) u
  | 0, u, h => by cases h; exact h1
  | 1, u, h => by cases h; exact h2
  | 2, u, h => by cases h; exact h3
theorem three_one {c1 c2 a1 a2 a3 a4 d1 d2 : Nat} : ∀ u ∈ [fun2 55 c1 c2, fun4 53 a1 a2 a3 a4, fun2 55 d1 d2], u.oneCell' = true := by
  intro u hu
  simp at hu
  rcases hu with rfl | rfl | rfl <;> rfl
set_option maxHeartbeats 4000000 in
set_option maxRecDepth 10000 in
theorem aside_none (w : World) (base b : Nat) (D : DS) (who : Nat → Nat) (R : Rep w base b D who) {r : Int} {i : Nat} (h : JI r D i) (count : Int) (old : Nat) (hold : old = (seenOf D nmD).length / 256) (hco : (old : Int) ≤ count ∧ count ≤ 10000) (p : Option Addr) (n cap : Nat) (N : Nat → Int) (L : Nat → List UInt8) (hp : PgA w p n N L) (hn : n ≤ 10000) (hN : ∀ j, j < n → (old : Int) < N j) :
    Calls Try.prog 26 #[.agg #[.pointer (some ⟨b, 0, none⟩)], .int .i64 count, .slice p n cap] w fun e w' => (∃ q c', e = .returned (.slice q 5 c') ∧ StA w' b q 5 (catS (renS (seenOf D nmJ)) 2 (tailS 1 old))) ∧ w.grownBy w' none := by
  have hg0 := World.grownBy_alloc w (.cells #[.pointer (some ⟨b, 0, none⟩)] 53) none
  have hb0 : Blk (w.alloc (.cells #[.pointer (some ⟨b, 0, none⟩)] 53)) w.heap.size #[.pointer (some ⟨b, 0, none⟩)] 53 := alloc_new _ _
  have ho6 : old ≤ 30 := by rw [hold]; have := h.len nmD; omega
  have HCt : Hid (∀ V, w.grownBy V none → Calls Try.prog 9 #[.pointer (some ⟨b, 0, none⟩)] V fun e w' => e = .returned (.int .i64 (old : Int)) ∧ V.grownBy w' none) := fun V hV => by rw [hold]; exact count_j V base b D who (R.keep hV) h
  have HTn : Hid (∀ V, w.grownBy V none → Calls Try.prog 37 #[.int .i64 (old : Int), .int .i64 count, .slice p n cap] V fun e w' => e = .returned (.slice none 0 0) ∧ V.grownBy w' none) := fun V hV => touched_none V old count (by omega) p n cap N L (hp.grown hV) hn hN
  have HRn : Hid (∀ V, w.grownBy V none → Calls Try.prog 36 #[.agg #[.pointer (some ⟨b, 0, none⟩)]] V fun e w' => (∃ v, e = .returned v ∧ StO w' V.heap.size b v 2 (renS (seenOf D nmJ))) ∧ V.grownBy w' none) := fun V hV => renew_j V base b D who (R.keep hV) h
  have HSy := hideJ (fun V => sync_c V b nmJ)
  have HPh : Hid (∀ V, Calls Try.prog 42 #[.agg #[.pointer (some ⟨b, 0, none⟩)], .agg #[.int .u32 1, .int .u32 (old : Int), .int .u32 0, .int .u32 0]] V fun e w' => (∃ v, e = .returned v ∧ SV w' b (.put nmJ 0 (bstr (sealB 1 old 0 0))) v) ∧ V.grownBy w' none) := fun V => putHead_j V b 1 old 0 0 (by omega) (by omega) (by omega) (by omega)
  have hw2 : IntKind.u32.wrap (old : Int) = (old : Int) := by rw [IntKind.wrap_u32]; omega
  have hw3 : IntKind.i64.wrap 1 = 1 := by rw [IntKind.wrap_i64]; rfl
  have hw4 : IntKind.u32.wrap 1 = 1 := by rw [IntKind.wrap_u32]; rfl
  have HG := hideJ hg0
  have HB := hideJ hb0
  generalize renS (seenOf D nmJ) = RS at HRn ⊢
  clear R h hg0 hb0 hp hN hold hn hco ho6
  go_enter Try.func26, Try.ntmps26
  go_wp2_with (first
    | (go_at_call 9; (with_reducible refine Calls.mono (HCt.out _ HG.out) ?_); rintro e w1 ⟨rfl, hg⟩; have HG1 := hideJ (grown_trans' HG.out hg); have HB1 := hideJ (Blk.grown HB.out hg); have cb1 := box_cell HB1.out; clear hg)
    | (go_at_call 37; (with_reducible refine Calls.mono (HTn.out _ HG1.out) ?_); rintro e w2 ⟨rfl, hg⟩; have HG2 := hideJ (grown_trans' HG1.out hg); have HB2 := hideJ (Blk.grown HB1.out hg); have cb2 := box_cell HB2.out; clear hg)
    | (go_at_call 36; (with_reducible refine Calls.mono (HRn.out _ HG2.out) ?_); rintro e w3 ⟨⟨v3, rfl, hst⟩, hg⟩; obtain ⟨p3, k3, rfl, -⟩ := hst.form; have HSt := hideJ hst; have HG3 := hideJ (grown_trans' HG2.out hg); have HB3 := hideJ (Blk.grown HB2.out hg); have HW2 := hideJ (And.intro HG2.out.size hg.size); clear hst hg cb1 cb2))
  go_loopw [9, 24] (fun sv iv wq => sv = .slice p3 2 k3 ∧ iv = .int .i64 0 ∧ wq = w3) (fun _ _ _ => 0)
  case atStart => exact ⟨rfl, rfl, rfl⟩
  case round =>
    obtain ⟨rfl, rfl, rfl⟩ := hrel
    go_wp2_with fail
    have HSG : Hid (∀ V, wr.drew.grownBy V none → V.cell? ⟨w.heap.size, 0, none⟩ = some (.pointer (some ⟨b, 0, none⟩))) := fun V hV => by
      have h1 : Blk wr.drew w.heap.size #[.pointer (some ⟨b, 0, none⟩)] 53 := HB3.out
      exact ((h1.grown hV).cell 0).trans rfl
    have HS0 := hideJ (HSG.out _ (grown_refl _))
    go_region_held3 (fun V => V.cell? ⟨w.heap.size, 0, none⟩ = some (.pointer (some ⟨b, 0, none⟩))) (first | with_reducible exact HS0.out | with_reducible exact HS1.out | with_reducible exact HS2.out | with_reducible exact HS3.out | with_reducible exact HS4.out | with_reducible exact HS5.out) (first
      | (go_at_call 42; (with_reducible refine Calls.mono (HPh.out _) ?_); rintro e y2 ⟨⟨u2, rfl, a1, a2, a3, a4, rfl, hv2⟩, hg⟩; have HV2 := hideJ (mkPut hv2); have HV1 := hideJ (HV1.out.grown hg); have HY2 := hideJ (grown_trans' HY1.out hg); have HS2 := hideJ (HSG.out _ (grown_trans' HY1.out hg)); clear hv2 hg)
      | (go_at_call 41; (with_reducible refine Calls.mono (HSy.out _) ?_); rintro e y3 ⟨⟨u3, rfl, d1, d2, rfl, hv3⟩, hg⟩; have HV3 := hideJ (mkSync hv3); have HV1 := hideJ (HV1.out.grown hg); have HV2 := hideJ (HV2.out.grown hg); have HY3 := hideJ (grown_trans' HY2.out hg); have HS3 := hideJ (HSG.out _ (grown_trans' HY2.out hg)); have HS4 := hideJ (HSG.out _ (grown_trans' (grown_trans' HY2.out hg) (World.grownBy_alloc y3 (.cells #[fun2 55 c1 c2, fun4 53 a1 a2 a3 a4, fun2 55 d1 d2] 82) none))); clear hv3 hg)
      | (go_at_call 41; (with_reducible refine Calls.mono (HSy.out _) ?_); rintro e y1 ⟨⟨u1, rfl, c1, c2, rfl, hv1⟩, hg⟩; have HV1 := hideJ (mkSync hv1); have HY1 := hideJ hg; have HS1 := hideJ (HSG.out _ hg); clear hv1 hg)
      | (refine step_appF (n := 2) (m := 3) (b := b) (base := w2.heap.size) (S := RS) [fun2 55 c1 c2, fun4 53 a1 a2 a3 a4, fun2 55 d1 d2] (S' := tailS 1 old) ((HSt.out.grown (World.grownBy_drew _)).grown HY3.out) rfl (by omega) (three_sv HV1.out HV2.out HV3.out) three_one (by omega) (Nat.le_trans HW2.out.2 HY3.out.size) _ _ (by rfl) (by rfl) (by rfl) (by rfl) ?_; intro p5 k5 w5 hst5 hap5; have HSt5 := hideJ hst5; have HAp5 := hideJ hap5; have HS5 := hideJ (box_cell (hap5.box (Blk.grown (box_drew HB3.out) HY3.out))); clear hst5 hap5))
    all_goals (try go_wp2)
    go_ret
    obtain ⟨q, c', e5, hA⟩ := HSt5.out.form
    refine ⟨⟨q, c', by rw [← e5]; rfl, hA⟩, ?_⟩
    exact HAp5.out.grown w (Nat.le_trans HW2.out.1 (Nat.le_refl _)) (grown_trans' (grown_trans' HG3.out (World.grownBy_drew _)) HY3.out)
end Go.Proofs.Ytfcgjedanhmpiaa

namespace Go.Proofs.Ytfcgjedanhmpiaa
open Go.ChangeShapes Go.WideShapes Go.ChangeAt Go.RowKit
open Go.ChangeMaps (setBlock)
set_option linter.unusedVariables false

theorem conv_range {w : World} {g o : Nat} {l : List UInt8} {n : Nat} (hn : l.length = n) (hb : w.rangeAt g o (bcs l)) (c : Nat) : (convert 43 9 (.slice (some ⟨g, o, none⟩) n c)).run Try.prog w = .ok (.string (bstr l)) w := by
  subst hn
  have hcell : ∀ i, i < l.length → w.cell? ⟨g, o + i, none⟩ = some (.int .u8 ((l.map fun b => (b.toNat : Int)).getD i 0)) := fun i hi =>
    hb i _ (by simp [bcs, hi, List.getD])
  have hcv := run_convert_bytes_arg (P := Try.prog) w 43 5 Try.underlying43 Try.underlying5 g o l.length c (l.map fun b => (b.toNat : Int)) (by simp) hcell 9 Try.underlying9
  rw [strOfNums_bstr] at hcv
  exact hcv
theorem pageStart_j (w : World) (n : Nat) (h1 : 1 ≤ n) (h2 : n ≤ 10000) : Calls Try.prog 34 #[.int .i64 (n : Int)] w fun e w' => e = .returned (.int .i64 ((256 * (n - 1) : Nat) : Int)) ∧ w = w' := by
  have e1 : IntKind.i64.wrap ((n : Int) - 1) = (n : Int) - 1 := by rw [IntKind.wrap_i64]; omega
  have e2 : IntKind.i64.wrap (256 * ((n : Int) - 1)) = 256 * ((n : Int) - 1) := by rw [IntKind.wrap_i64]; omega
  have HN := hideJ (And.intro h1 h2)
  clear h1 h2
  go_enter Try.func34, Try.ntmps34
  go_wp2
  go_ret
  refine ⟨?_, rfl⟩
  have := HN.out
  show Ending.returned (Value.int .i64 (256 * ((n : Int) - 1))) = _
  congr 2
  omega
/-- The pages' steps; those behind them. -/
def pgS (N : Nat → Nat) (L : Nat → List UInt8) : Nat → Stp := fun k => .put nmD (256 * (N k - 1)) (bstr (L k))
def endS (count : Nat) : Nat → Stp
  | 0 => .cut nmD (256 * count)
  | 1 => .sync nmD
  | 2 => .put nmJ 0 (bstr (sealB 0 0 0 0))
  | _ => .sync nmJ
theorem four_sv {V : World} {b count a1 a2 a3 b1 b2 c1 c2 c3 c4 d1 d2 : Nat} (h0 : SV V b (.cut nmD (256 * count)) (fun3 58 a1 a2 a3)) (h1 : SV V b (.sync nmD) (fun2 55 b1 b2)) (h2 : SV V b (.put nmJ 0 (bstr (sealB 0 0 0 0))) (fun4 53 c1 c2 c3 c4)) (h3 : SV V b (.sync nmJ) (fun2 55 d1 d2)) :
    ∀ k u, [fun3 58 a1 a2 a3, fun2 55 b1 b2, fun4 53 c1 c2 c3 c4, fun2 55 d1 d2][k]? = some u → SV V b (endS count k) u
  | 0, u, h => by cases h; exact h0
  | 1, u, h => by cases h; exact h1
  | 2, u, h => by cases h; exact h2
  | 3, u, h => by cases h; exact h3
theorem four_svA {V : World} {b count A a1 a2 a3 b1 b2 c1 c2 c3 c4 d1 d2 : Nat} (hA : A = 256 * count) (h0 : SV V b (.cut nmD A) (fun3 58 a1 a2 a3)) (h1 : SV V b (.sync nmD) (fun2 55 b1 b2)) (h2 : SV V b (.put nmJ 0 (bstr (sealB 0 0 0 0))) (fun4 53 c1 c2 c3 c4)) (h3 : SV V b (.sync nmJ) (fun2 55 d1 d2)) :
    ∀ k u, [fun3 58 a1 a2 a3, fun2 55 b1 b2, fun4 53 c1 c2 c3 c4, fun2 55 d1 d2][k]? = some u → SV V b (endS count k) u := by subst hA; exact four_sv h0 h1 h2 h3
theorem four_oneC {a1 a2 a3 b1 b2 c1 c2 c3 c4 d1 d2 : Nat} : ∀ u ∈ [fun3 58 a1 a2 a3, fun2 55 b1 b2, fun4 53 c1 c2 c3 c4, fun2 55 d1 d2], u.oneCell' = true := by
  intro u hu
  simp at hu
  rcases hu with rfl | rfl | rfl | rfl <;> rfl
theorem one_sv {V : World} {b : Nat} {s : Stp} {v : Value} (h : SV V b s v) : ∀ (k : Nat) (u : Value), [v][k]? = some u → SV V b s u
  | 0, u, hk => by cases hk; exact h
theorem catS_succ (S : Nat → Stp) (n : Nat) : catS S n (fun _ => S n) = fun k => if k < n then S k else S n := rfl
theorem StO.congr {w : World} {base b : Nat} {v : Value} {n : Nat} {S S' : Nat → Stp} (h : StO w base b v n S) (he : ∀ k, k < n → S k = S' k) : StO w base b v n S' := by
  obtain ⟨vs, h1, h2, h3⟩ := h
  exact ⟨vs, h1, h2, fun k u hk => by rw [← he k (by have := (List.getElem?_eq_some_iff.1 hk).1; omega)]; exact h3 k u hk⟩

set_option maxHeartbeats 4000000 in
set_option maxRecDepth 10000 in
theorem change_j (w : World) (b count : Nat) (hcount : count ≤ 5000) (p : Option Addr) (n cap : Nat) (N : Nat → Nat) (L : Nat → List UInt8) (hp : PgA w p n (fun k => (N k : Int)) L) (hn : n ≤ 900) (hN : ∀ j, j < n → 1 ≤ N j ∧ N j ≤ 5000) :
    Calls Try.prog 27 #[.agg #[.pointer (some ⟨b, 0, none⟩)], .int .i64 (count : Int), .slice p n cap] w fun e w' => (∃ q c', e = .returned (.slice q (n + 4) c') ∧ StA w' b q (n + 4) (catS (pgS N L) n (endS count))) ∧ w.grownBy w' none := by
  have HP := hideJ hp
  have HN := hideJ hN
  have HL := hideJ hn
  have HC := hideJ hcount
  have HG : Hid (w.grownBy (w.alloc (.cells #[.pointer (some ⟨b, 0, none⟩)] 53)) none) := World.grownBy_alloc w (.cells #[.pointer (some ⟨b, 0, none⟩)] 53) none
  have HB : Hid (Blk (w.alloc (.cells #[.pointer (some ⟨b, 0, none⟩)] 53)) w.heap.size #[.pointer (some ⟨b, 0, none⟩)] 53) := alloc_new _ _
  clear hp hN hn hcount
  go_enter Try.func27, Try.ntmps27
  go_wp2
  go_loopw [7, 12] (fun sv iv wr => ∃ (j : Nat) (q : Option Addr) (c' : Nat), j ≤ n ∧ iv = .int .i64 (j : Int) ∧ sv = .slice q j c' ∧ StO wr w.heap.size b (.slice q j c') j (pgS N L) ∧ w.grownBy wr none ∧ Blk wr w.heap.size #[.pointer (some ⟨b, 0, none⟩)] 53) (fun _ iv _ => n - (intOf iv).toNat)
  case atStart => exact ⟨0, none, 0, Nat.zero_le _, rfl, rfl, ⟨[], World.ownsRow_nil _ _ _ _, rfl, fun k u hk => by simp at hk⟩, HG.out, HB.out⟩
  case round =>
    obtain ⟨j, q, c', hj, rfl, rfl, hst, hg, hbx⟩ := hrel
    have HSt := hideJ hst
    have HGr := hideJ hg
    have HBx := hideJ hbx
    clear hst hg hbx
    by_cases hlt : j < n
    · obtain ⟨g, cur, rfl, hb, hc⟩ := (HP.out.grown HGr.out) (by omega)
      have HRg := hideJ (hc j hlt)
      obtain ⟨z, hz, hZ⟩ := new67 wr
      have HZ := hideJ hZ
      have HI := hideJ (size67 (n := (N j : Int)) (hc j hlt).1)
      have HSz : Hid ((pcl (N j : Int) (L j)).toArray.size = z.size) := by show _ = _; rw [List.size_toArray, pcl_length _ (hc j hlt).1, hz]
      have HA := hideJ (pcl_all (N j : Int) (L j))
      have l1 : (j : Int) < (n : Int) := by omega
      have l0 : (0 : Int) ≤ (j : Int) := by omega
      have hw1 : IntKind.i64.wrap ((j : Int) + 1) = (j : Int) + 1 := by have := HL.out; rw [IntKind.wrap_i64]; omega
      have HK := hideJ hlt
      have HPs := hideJ (fun V => pageStart_j V (N j) (HN.out j hlt).1 (by have := HN.out j hlt; omega))
      have HPc := hideJ (fun V => put_c V b nmD (bstr (L j)) (256 * (N j - 1)))
      obtain ⟨A, hAA⟩ : ∃ A, A = 256 * (N j - 1) := ⟨_, rfl⟩
      rw [← hAA] at HPs HPc
      have HAA := hideJ hAA
      clear hAA
      have HL6 := hideJ (hc j hlt).1
      clear hb hc hZ hz
      go_upto_region 5 with (first
          | ((with_reducible refine at67L ?_); refine wp_load67 HRg.out.1 HRg.out.2 _ (by rfl) (by rfl) (by rfl) ?_)
          | ((with_reducible refine at67S ?_); refine wp_storeB (c := (pcl (N j : Int) (L j)).toArray) HI.out HSz.out HA.out HZ.out _ _ (by rfl) (by rfl) (by rfl) (by rfl) ?_; intro W5 hb5 ho5; have HG5 := hideJ (grown_only (grown_trans' HGr.out (World.grownBy_alloc _ _ _)) ho5 HGr.out.size); have HB5 := hideJ hb5; have HBx5 := hideJ (Blk.allocO HBx.out ho5); have HGw := hideJ (grown_only (World.grownBy_alloc wr _ none) ho5 (Nat.le_refl _)); clear hb5 ho5))
      have HSG : Hid (∀ V, W5.drew.grownBy V none → V.cell? ⟨w.heap.size, 0, none⟩ = some (.pointer (some ⟨b, 0, none⟩)) ∧ V.cell? ⟨wr.heap.size, 0, none⟩ = some (.int .i64 (N j : Int)) ∧ (convert 43 9 (.slice (some ⟨wr.heap.size, 1, none⟩) 256 256)).run Try.prog V = .ok (.string (bstr (L j))) V) := fun V hV => by
        have h1 : Blk W5.drew w.heap.size #[.pointer (some ⟨b, 0, none⟩)] 53 := HBx5.out
        have h2 : Blk W5.drew wr.heap.size (pcl (N j : Int) (L j)).toArray 67 := HB5.out
        have h3 := h2.grown hV
        refine ⟨((h1.grown hV).cell 0).trans rfl, (h3.cell 0).trans rfl, conv_range HL6.out (fun k v hk => ?_) 256⟩
        rw [h3.cell]
        rw [Nat.add_comm]
        simpa [pcl] using hk
      have HSA : Hid (∀ V W, W5.drew.grownBy V none → App w.heap.size V W → W.cell? ⟨w.heap.size, 0, none⟩ = some (.pointer (some ⟨b, 0, none⟩)) ∧ W.cell? ⟨wr.heap.size, 0, none⟩ = some (.int .i64 (N j : Int)) ∧ (convert 43 9 (.slice (some ⟨wr.heap.size, 1, none⟩) 256 256)).run Try.prog W = .ok (.string (bstr (L j))) W) := fun V W hV ha => by
        have h1 : Blk W5.drew w.heap.size #[.pointer (some ⟨b, 0, none⟩)] 53 := HBx5.out
        have h2 : Blk W5.drew wr.heap.size (pcl (N j : Int) (L j)).toArray 67 := HB5.out
        have h3 := ha.pg (h2.grown hV)
        refine ⟨box_cell (ha.box (h1.grown hV)), (h3.cell 0).trans rfl, conv_range HL6.out (fun k v hk => ?_) 256⟩
        rw [h3.cell]
        rw [Nat.add_comm]
        simpa [pcl] using hk
      have HS0 := hideJ (HSG.out _ (grown_refl _))
      obtain ⟨X, hX⟩ : ∃ X, X = bstr (L j) := ⟨_, rfl⟩
      rw [← hX] at HSG HS0 HPc HSA
      have HX := hideJ hX
      clear hX
      go_region_held3 (fun V => V.cell? ⟨w.heap.size, 0, none⟩ = some (.pointer (some ⟨b, 0, none⟩)) ∧ V.cell? ⟨wr.heap.size, 0, none⟩ = some (.int .i64 (N j : Int)) ∧ (convert 43 9 (.slice (some ⟨wr.heap.size, 1, none⟩) 256 256)).run Try.prog V = .ok (.string X) V) (first | with_reducible exact HS0.out | with_reducible exact HS2.out | with_reducible exact HS3.out | with_reducible exact HS4.out) (first
        | (go_at_call 34; (with_reducible refine Calls.mono (HPs.out _) ?_); rintro e y1 ⟨rfl, rfl⟩)
        | (go_at_call 39; (with_reducible refine Calls.mono (HPc.out _) ?_); rintro e y2 ⟨⟨u2, rfl, a1, a2, a3, a4, rfl, hv2⟩, hg⟩; have HV2 := hideJ (mkPut hv2); have HY2 := hideJ hg; have HS2 := hideJ (HSG.out _ hg); have HS3 := hideJ (HSG.out _ (grown_trans' hg (World.grownBy_alloc y2 (.cells #[fun4 53 a1 a2 a3 a4] 82) none))); clear hv2 hg)
        | (refine step_appF (n := j) (m := 1) (b := b) (base := w.heap.size) (S := pgS N L) (S' := fun _ => .put nmD A X) [fun4 53 a1 a2 a3 a4] (((HSt.out.grown HGw.out).grown (World.grownBy_drew _)).grown HY2.out) rfl (by omega) (one_sv HV2.out) (by intro u hu; simp at hu; rw [hu]; rfl) (by have := HL.out; have := HK.out; omega) (Nat.le_trans HG5.out.size HY2.out.size) _ _ (by rfl) (by rfl) (by rfl) (by rfl) ?_; intro p5 k5 w5 hst5 hap5; have HSt5 := hideJ hst5; have HAp5 := hideJ hap5; have HS4 := hideJ (HSA.out _ _ HY2.out hap5); clear hst5 hap5))
      all_goals (try go_wp2)
      refine ⟨⟨j + 1, p5, k5, HK.out, rfl, rfl, ?_, ?_, ?_⟩, ?_⟩
      · refine StO.congr HSt5.out (fun k hk => ?_)
        unfold catS pgS
        by_cases e : k < j
        · rw [if_pos e]
        · rw [if_neg e]
          obtain rfl : k = j := by omega
          rw [HX.out, HAA.out]
      · exact HAp5.out.grown w (Nat.le_refl _) (grown_trans' (grown_trans' HG5.out (World.grownBy_drew _)) HY2.out)
      · exact HAp5.out.box (Blk.grown (box_drew HBx5.out) HY2.out)
      · simp only [intOf]; have := HK.out; omega
    · obtain rfl : j = n := by omega
      have hw3 : IntKind.i64.wrap ((count : Int) + 1) = ((count + 1 : Nat) : Int) := by have := HC.out; rw [IntKind.wrap_i64]; omega
      have HPs : Hid (∀ V, Calls Try.prog 34 #[.int .i64 ((count + 1 : Nat) : Int)] V fun e w' => e = .returned (.int .i64 ((256 * count : Nat) : Int)) ∧ V = w') := fun V => pageStart_j V (count + 1) (by omega) (by have := HC.out; omega)
      generalize ((count + 1 : Nat) : Int) = C1 at hw3 HPs
      have HCc := hideJ (fun V => cut_c V b nmD (256 * count))
      obtain ⟨A, hAA⟩ : ∃ A, A = 256 * count := ⟨_, rfl⟩
      rw [← hAA] at HPs HCc
      have HAA := hideJ hAA
      clear hAA
      have HSD := hideJ (fun V => sync_c V b nmD)
      have HSJ := hideJ (fun V => sync_c V b nmJ)
      have HPh : Hid (∀ V, Calls Try.prog 42 #[.agg #[.pointer (some ⟨b, 0, none⟩)], .agg #[.int .u32 0, .int .u32 0, .int .u32 0, .int .u32 0]] V fun e w' => (∃ v, e = .returned v ∧ SV w' b (.put nmJ 0 (bstr (sealB 0 0 0 0))) v) ∧ V.grownBy w' none) := fun V => putHead_j V b 0 0 0 0 (by omega) (by omega) (by omega) (by omega)
      have HSG : Hid (∀ V, wr.drew.grownBy V none → V.cell? ⟨w.heap.size, 0, none⟩ = some (.pointer (some ⟨b, 0, none⟩))) := fun V hV => box_cell (Blk.grown (box_drew HBx.out) hV)
      have HSA : Hid (∀ V W, wr.drew.grownBy V none → App w.heap.size V W → W.cell? ⟨w.heap.size, 0, none⟩ = some (.pointer (some ⟨b, 0, none⟩))) := fun V W hV ha => box_cell (ha.box (Blk.grown (box_drew HBx.out) hV))
      have HS0 := hideJ (HSG.out _ (grown_refl _))
      go_wp2_with fail
      go_region_held3 (fun V => V.cell? ⟨w.heap.size, 0, none⟩ = some (.pointer (some ⟨b, 0, none⟩))) (first | with_reducible exact HS0.out | with_reducible exact HS1.out | with_reducible exact HS2.out | with_reducible exact HS3.out | with_reducible exact HS4.out | with_reducible exact HS5.out | with_reducible exact HS6.out) (first
        | (go_at_call 34; (with_reducible refine Calls.mono (HPs.out _) ?_); rintro e y0 ⟨rfl, rfl⟩)
        | (go_at_call 43; (with_reducible refine Calls.mono (HCc.out _) ?_); rintro e y1 ⟨⟨u1, rfl, a1, a2, a3, rfl, hv⟩, hg⟩; have HV1 := hideJ (mkCut hv); have HY1 := hideJ hg; have HS1 := hideJ (HSG.out _ hg); clear hv hg)
        | (go_at_call 41; (with_reducible refine Calls.mono (HSD.out _) ?_); rintro e y2 ⟨⟨u2, rfl, b1, b2, rfl, hv⟩, hg⟩; have HV2 := hideJ (mkSync hv); have HV1 := hideJ (HV1.out.grown hg); have HY2 := hideJ (grown_trans' HY1.out hg); have HS2 := hideJ (HSG.out _ (grown_trans' HY1.out hg)); clear hv hg)
        | (go_at_call 42; (with_reducible refine Calls.mono (HPh.out _) ?_); rintro e y3 ⟨⟨u3, rfl, c1, c2, c3, c4, rfl, hv⟩, hg⟩; have HV3 := hideJ (mkPut hv); have HV1 := hideJ (HV1.out.grown hg); have HV2 := hideJ (HV2.out.grown hg); have HY3 := hideJ (grown_trans' HY2.out hg); have HS3 := hideJ (HSG.out _ (grown_trans' HY2.out hg)); clear hv hg)
        | (go_at_call 41; (with_reducible refine Calls.mono (HSJ.out _) ?_); rintro e y4 ⟨⟨u4, rfl, d1, d2, rfl, hv⟩, hg⟩; have HV4 := hideJ (mkSync hv); have HV1 := hideJ (HV1.out.grown hg); have HV2 := hideJ (HV2.out.grown hg); have HV3 := hideJ (HV3.out.grown hg); have HY4 := hideJ (grown_trans' HY3.out hg); have HS4 := hideJ (HSG.out _ (grown_trans' HY3.out hg)); have HS5 := hideJ (HSG.out _ (grown_trans' (grown_trans' HY3.out hg) (World.grownBy_alloc y4 (.cells #[fun3 58 a1 a2 a3, fun2 55 b1 b2, fun4 53 c1 c2 c3 c4, fun2 55 d1 d2] 82) none))); clear hv hg)
        | (refine step_appF (n := j) (m := 4) (b := b) (base := w.heap.size) (S := pgS N L) (S' := endS count) [fun3 58 a1 a2 a3, fun2 55 b1 b2, fun4 53 c1 c2 c3 c4, fun2 55 d1 d2] ((HSt.out.grown (World.grownBy_drew _)).grown HY4.out) rfl (by omega) (four_svA HAA.out HV1.out HV2.out HV3.out HV4.out) four_oneC (by have := HL.out; omega) (Nat.le_trans HGr.out.size HY4.out.size) _ _ (by rfl) (by rfl) (by rfl) (by rfl) ?_; intro p5 k5 w5 hst5 hap5; have HSt5 := hideJ hst5; have HAp5 := hideJ hap5; have HS6 := hideJ (HSA.out _ _ HY4.out hap5); clear hst5 hap5))
      all_goals (try go_wp2)
      go_ret
      obtain ⟨q5, c5, e5, hA⟩ := HSt5.out.form
      refine ⟨⟨q5, c5, by rw [← e5]; rfl, hA⟩, ?_⟩
      exact HAp5.out.grown w (Nat.le_refl _) (grown_trans' (grown_trans' HGr.out (World.grownBy_drew _)) HY4.out)
end Go.Proofs.Ytfcgjedanhmpiaa
