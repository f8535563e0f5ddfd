/- Commits and recoveries on a disk that may crash. -/
/- Commit and Recover on a disk that may crash. -/
import Derived.Test.YtfcgjedanhmpiaaLD
import Derived.Test.YtfcgjedanhmpiaaAKH
namespace Go.Proofs.Ytfcgjedanhmpiaa
open Go.ChangeShapes Go.WideShapes Go.ChangeAt Go.RowKit
open Go.ChangeMaps (setBlock)
set_option linter.unusedVariables false

theorem vw_len {f : Vw} {S : Nat → Stp} {n : Nat} (hok : ∀ k, k < n → (S k).ok (vw f S k)) (hf : ∀ nm, (f nm).length ≤ 6100) : ∀ k, k ≤ n → ∀ nm, (vw f S k nm).length ≤ 6100
  | 0, _, nm => hf nm
  | k + 1, hk, nm => by
    have ih := vw_len hok hf k (by omega)
    have ho := hok k (by omega)
    show ((S k).on (vw f S k) nm).length ≤ 6100
    generalize S k = s at ho
    cases s with
    | put nm' a d =>
      by_cases e : nm = nm'
      · subst e
        show (Vw.set _ nm (wseen _ a d.data.toList) nm).length ≤ 6100
        have hl : d.data.toList.length = d.size := by rw [Array.length_toList]; rfl
        rw [set_same, length_wseen, hl]
        have := ih nm
        have := ho.2.2.2
        omega
      · rw [on_off (s := .put nm' a d) e]; exact ih nm
    | cut nm' m =>
      by_cases e : nm = nm'
      · subst e
        show (Vw.set _ nm (rsz _ m) nm).length ≤ 6100
        rw [set_same, length_rsz]
        exact ho.2.1
      · rw [on_off (s := .cut nm' m) e]; exact ih nm
    | sync nm' => exact ih nm
theorem fits_big {r : Int} (hr : 20000 ≤ r) {f : Vw} (hf : ∀ nm, (f nm).length ≤ 6100) {s : Stp} (ho : s.ok f) : s.fits r f := by
  cases s with
  | put nm a d =>
    refine .inr ?_
    have h1 := hf nmD
    have h2 := hf nmJ
    have h3 := ho.2.2.2
    unfold Vw.tot
    omega
  | cut nm m => trivial
  | sync nm => trivial
structure Dok (r : Int) (w : World) (D : DS) (base b : Nat) (w' : World) (S : Nat → Stp) (n i : Nat) (D' : DS) (who' : Nat → Nat) : Prop where
  rm : RM w D w' base b D' who'
  ji : JI r D' (i + n)
  seen : seenOf D' = vw (seenOf D) S n
  ps : psOf D' = pst (psOf D) S n
  fuse : D'.fuse = if D.fuse = 0 then 0 else D.fuse - n
structure Dcr (r : Int) (w : World) (D : DS) (base b : Nat) (w' : World) (Q : List UInt8 → List UInt8 → Prop) (i n : Nat) (D' : DS) (who' : Nat → Nat) : Prop where
  rm : RM w D w' base b D' who'
  jx : JX r D' (i + n)
  down : D'.down = true
  safe : Safe Q (psOf D')
theorem JX.later {r : Int} {D : DS} {i j : Nat} (h : JX r D i) (hij : i ≤ j) : JX r D j :=
  { h with few := by have := h.few; omega, steps := by have := h.steps; omega, starts := by have := h.starts; omega }
theorem do_ok (w : World) (base b : Nat) (D : DS) (who : Nat → Nat) (R : Rep w base b D who) {r : Int} (hr : 20000 ≤ r) {i : Nat} (h : JI r D i) (p : Option Addr) (n cap : Nat) (S : Nat → Stp) (hS : StA w b p n S) (hin : i + n ≤ 20000) (hok : ∀ k, k < n → (S k).ok (vw (seenOf D) S k)) (hf : D.fuse = 0 ∨ (n : Int) < D.fuse) :
    Calls Try.prog 25 #[.slice p n cap] w fun e w' => e = .returned (.int .i64 0) ∧ ∃ D' who', Dok r w D base b w' S n i D' who' := by
  have hl := vw_len hok (fun nm => h.len nm)
  refine (do_any w base b D who R h p n cap S hS hin (fun k hk _ => hok k hk)).mono ?_
  rintro e w' ⟨k, x, rfl, ⟨hF, _, D', who', h1, h2, h3, h4, h5⟩ | ⟨_, hk, h2, _⟩⟩
  · obtain ⟨rfl, rfl⟩ := hF.all (fun j hj => fits_big hr (hl j (by omega)) (hok j hj))
    exact ⟨rfl, D', who', h1, h2, h3, h4, h5⟩
  · exfalso; omega
theorem do_cr (w : World) (base b : Nat) (D : DS) (who : Nat → Nat) (R : Rep w base b D who) {r : Int} (hr : 20000 ≤ r) {i : Nat} (h : JI r D i) (p : Option Addr) (n cap : Nat) (S : Nat → Stp) (hS : StA w b p n S) (hin : i + n ≤ 20000) (hok : ∀ k, k < n → (S k).ok (vw (seenOf D) S k)) (hf : ¬ (D.fuse = 0 ∨ (n : Int) < D.fuse)) {Q : List UInt8 → List UInt8 → Prop} (hQ : Run Q (psOf D) S n) :
    Calls Try.prog 25 #[.slice p n cap] w fun e w' => e = .returned (.int .i64 7) ∧ ∃ D' who', Dcr r w D base b w' Q i n D' who' := by
  have hl := vw_len hok (fun nm => h.len nm)
  have h0 := h.fuse.1
  refine (do_any w base b D who R h p n cap S hS hin (fun k hk _ => hok k hk)).mono ?_
  rintro e w' ⟨k, x, rfl, ⟨hF, hk, _⟩ | ⟨rfl, hk, h2, D', who', h3, h4, h5, h6⟩⟩
  · exfalso
    obtain ⟨rfl, rfl⟩ := hF.all (fun j hj => fits_big hr (hl j (by omega)) (hok j hj))
    omega
  · exact ⟨rfl, D', who', h3, h4.later (by omega), h5, by rw [h6]; exact hQ k hk⟩
theorem bak_okx (f : Vw) {old m : Nat} {T : Nat → Nat} {P : Nat → List UInt8} (hP : ∀ k, k < m → (P k).length = 256) (hT : Rise old m T) (ho : old ≤ 20) (hc : 256 * old ≤ (f nmD).length ∨ ∃ j, j < m ∧ T j = old) (k : Nat) (hk : k < 2 + (m + 4)) :
    (bakS f old m T P k).ok (vw f (bakS f old m T P) k) := by
  have r2 := ren_view f 2 (by omega) (by omega)
  unfold bakS
  by_cases c : k < 2
  · rw [catS_lt c, vw_le (Nat.le_of_lt c)]
    match k with
    | 0 =>
      refine ⟨.inr rfl, ?_, ?_, ?_⟩
      · show 0 < (bstr _).size; rw [bstr_size, sealB_length]; omega
      · show (bstr _).size ≤ 2000; rw [bstr_size, sealB_length]; omega
      · show 0 + (bstr _).size ≤ 6100; rw [bstr_size, sealB_length]; omega
    | 1 => exact trivial
  · obtain ⟨j, rfl⟩ : ∃ j, k = 2 + j := ⟨k - 2, by omega⟩
    rw [catS_ge, vw_add]
    exact chg_ok _ hP (fun j hj => ⟨(hT.low j hj).1, by have := (hT.low j hj).2; omega⟩) (by rw [r2.2.2.1]; exact hc) ho j (by omega)

set_option maxHeartbeats 8000000 in
set_option maxRecDepth 20000 in
theorem takeBack_ok (w : World) (base b : Nat) (D : DS) (who : Nat → Nat) (R : Rep w base b D who) {r : Int} (hr : 20000 ≤ r) {i : Nat} (h : JI r D i) (old m : Nat) (T : Nat → Nat) (P : Nat → List UInt8) (hH : Hotw (seenOf D nmJ) old m T P) (hP : ∀ k, k < m → (P k).length = 256) (hT : Rise old m T) (ho : old ≤ 20) (hm : m ≤ 20) (hcx : 256 * old ≤ (seenOf D nmD).length ∨ ∃ j, j < m ∧ T j = old) (hi : i + (2 + (m + 4)) ≤ 20000)
    (hf : D.fuse = 0 ∨ ((2 + (m + 4) : Nat) : Int) < D.fuse) :
    Calls Try.prog 23 #[.agg #[.pointer (some ⟨b, 0, none⟩)]] w fun e w' => e = .returned (.int .i64 0) ∧ ∃ D' who', Dok r w D base b w' (bakS (seenOf D) old m T P) (2 + (m + 4)) i D' who' := by
  have hg0 := World.grownBy_alloc w (.cells #[.pointer (some ⟨b, 0, none⟩)] 53) none
  have hb0 : Blk (w.alloc (.cells #[.pointer (some ⟨b, 0, none⟩)] 53)) w.heap.size #[.pointer (some ⟨b, 0, none⟩)] 53 := alloc_new _ _
  have hok := bak_okx (seenOf D) (T := T) (P := P) hP hT ho hcx
  have HKp := hideJ (fun V (hV : w.grownBy V none) => kept_j V base b D who (R.keep hV) h old m T P hH hP hT (by omega) (by omega))
  have HRn : Hid (∀ V, w.grownBy V none → Calls Try.prog 36 #[.agg #[.pointer (some ⟨b, 0, none⟩)]] V fun e w' => (∃ v, e = .returned v ∧ StO w' V.heap.size b v 2 (renS (seenOf D nmJ))) ∧ V.grownBy w' none) := fun V hV => renew_j V base b D who (R.keep hV) h
  have HCh : Hid (∀ V p cap, PgA V p m (fun k => (T k : Int)) P → Calls Try.prog 27 #[.agg #[.pointer (some ⟨b, 0, none⟩)], .int .i64 (old : Int), .slice p m cap] V fun e w' => (∃ q c', e = .returned (.slice q (m + 4) c') ∧ StA w' b q (m + 4) (chgS old m T P)) ∧ V.grownBy w' none) := fun V p cap hp => change_j V b old (by omega) p m cap T P hp (by omega) (fun j hj => by have := hT.low j hj; omega)
  have HDo : Hid (∀ V q c', w.grownBy V none → RM w D V base b D who → Blk V w.heap.size #[.pointer (some ⟨b, 0, none⟩)] 53 → StA V b q (2 + (m + 4)) (catS (renS (seenOf D nmJ)) 2 (chgS old m T P)) → Calls Try.prog 25 #[.slice q (2 + (m + 4)) c'] V fun e w' => e = .returned (.int .i64 0) ∧ (∃ D' who', Dok r w D base b w' (bakS (seenOf D) old m T P) (2 + (m + 4)) i D' who') ∧ Blk w' w.heap.size #[.pointer (some ⟨b, 0, none⟩)] 53) := fun V q c' hV hrm hbx hst => by
    refine (do_ok V base b D who (R.keep hV) hr h q (2 + (m + 4)) c' (bakS (seenOf D) old m T P) hst hi hok hf).mono ?_
    rintro e w' ⟨rfl, D', who', hd⟩
    exact ⟨rfl, ⟨D', who', hrm.trans hd.rm, hd.ji, hd.seen, hd.ps, hd.fuse⟩, hd.rm.blk (R.keep hV) hbx okT53⟩
  have HR := hideJ R
  have HM := hideJ hm
  have HG := hideJ hg0
  have HB := hideJ hb0
  have cb := box_cell hb0
  generalize hCS : chgS old m T P = CS at HCh HDo
  generalize hRS : renS (seenOf D nmJ) = RS at HRn HDo
  clear R h hH hP hT ho hm hcx hi hok hg0 hb0 hCS hRS hf hr
  go_enter Try.func23, Try.ntmps23
  go_upto_region 4 with (first
    | (go_at_call 35; (with_reducible refine Calls.mono (HKp.out _ HG.out) ?_); rintro e w1 ⟨⟨q1, c1, rfl, hp1⟩, hg⟩; have HP1 := hideJ hp1; have HG1 := hideJ (grown_trans' HG.out hg); have HB1 := hideJ (Blk.grown HB.out hg); clear hg hp1))
  have HSG : Hid (∀ V, w1.drew.grownBy V none → V.cell? ⟨w.heap.size, 0, none⟩ = some (.pointer (some ⟨b, 0, none⟩))) := fun V hV => box_cell (Blk.grown (box_drew HB1.out) hV)
  have HS0 := hideJ (HSG.out _ (grown_refl _))
  have HD1 := hideJ (grown_trans' HG1.out (World.grownBy_drew w1))
  clear cb
  go_region_held3 (fun V => V.cell? ⟨w.heap.size, 0, none⟩ = some (.pointer (some ⟨b, 0, none⟩))) (first | with_reducible exact HS0.out | with_reducible exact HS1.out | with_reducible exact HS2.out | with_reducible exact HS3.out | with_reducible exact HS4.out) (first
    | (go_at_call 36; (with_reducible refine Calls.mono (HRn.out _ HD1.out) ?_); rintro e y1 ⟨⟨v1, rfl, hst⟩, hg⟩; obtain ⟨p1, k1, rfl, -⟩ := hst.form; have HSt := hideJ hst; have HY1 := hideJ hg; have HS1 := hideJ (HSG.out _ hg); clear hst hg)
    | (go_at_call 27; (with_reducible refine Calls.mono (HCh.out _ _ _ ((HP1.out.grown (World.grownBy_drew _)).grown HY1.out)) ?_); rintro e y2 ⟨⟨q2, c2, rfl, hsa⟩, hg⟩; have HSa := hideJ hsa; have HSt2 := hideJ (HSt.out.grown hg); have HY2 := hideJ (grown_trans' HY1.out hg); have HS2 := hideJ (HSG.out _ (grown_trans' HY1.out hg)); clear hsa hg)
    | (refine step_appG (base := w1.drew.heap.size) HSt2.out HSa.out (by omega) (by have := HM.out; omega) HY2.out.size _ _ (by rfl) (by rfl) (by rfl) (by rfl) ?_; intro p3 k3 w3 hst3 hap3; obtain ⟨q3, c3, e3, hA3⟩ := hst3.form; cases e3; have HA3 := hideJ hA3; have HG3 := hideJ (hap3.grown w HD1.out.size (grown_trans' HD1.out HY2.out)); have HS3 := hideJ (box_cell (hap3.box (Blk.grown (box_drew HB1.out) HY2.out))); have HB3 := hideJ (hap3.box (Blk.grown (box_drew HB1.out) HY2.out)); clear hst3 hap3 hA3)
    | (go_at_call 25; (with_reducible refine Calls.mono (HDo.out _ _ _ HG3.out ((RM.start HR.out).grown HG3.out) HB3.out HA3.out) ?_); rintro e y4 ⟨rfl, ⟨D4, who4, hc4⟩, hb4⟩; have HC4 := hideJ hc4; have HS4 := hideJ (box_cell hb4); clear hc4 hb4))
  all_goals (try go_wp2)
  go_ret
  exact ⟨rfl, D4, who4, HC4.out⟩

set_option maxHeartbeats 8000000 in
set_option maxRecDepth 20000 in
theorem takeBack_cr (w : World) (base b : Nat) (D : DS) (who : Nat → Nat) (R : Rep w base b D who) {r : Int} (hr : 20000 ≤ r) {i : Nat} (h : JI r D i) (old m : Nat) (T : Nat → Nat) (P : Nat → List UInt8) (hH : Hotw (seenOf D nmJ) old m T P) (hP : ∀ k, k < m → (P k).length = 256) (hT : Rise old m T) (ho : old ≤ 20) (hm : m ≤ 20) (hcx : 256 * old ≤ (seenOf D nmD).length ∨ ∃ j, j < m ∧ T j = old) (hi : i + (2 + (m + 4)) ≤ 20000)
    (hf : ¬ (D.fuse = 0 ∨ ((2 + (m + 4) : Nat) : Int) < D.fuse)) {Q : List UInt8 → List UInt8 → Prop} (hQ : Run Q (psOf D) (bakS (seenOf D) old m T P) (2 + (m + 4))) :
    Calls Try.prog 23 #[.agg #[.pointer (some ⟨b, 0, none⟩)]] w fun e w' => e = .returned (.int .i64 7) ∧ ∃ D' who', Dcr r w D base b w' Q i (2 + (m + 4)) D' who' := by
  have hg0 := World.grownBy_alloc w (.cells #[.pointer (some ⟨b, 0, none⟩)] 53) none
  have hb0 : Blk (w.alloc (.cells #[.pointer (some ⟨b, 0, none⟩)] 53)) w.heap.size #[.pointer (some ⟨b, 0, none⟩)] 53 := alloc_new _ _
  have hok := bak_okx (seenOf D) (T := T) (P := P) hP hT ho hcx
  have HKp := hideJ (fun V (hV : w.grownBy V none) => kept_j V base b D who (R.keep hV) h old m T P hH hP hT (by omega) (by omega))
  have HRn : Hid (∀ V, w.grownBy V none → Calls Try.prog 36 #[.agg #[.pointer (some ⟨b, 0, none⟩)]] V fun e w' => (∃ v, e = .returned v ∧ StO w' V.heap.size b v 2 (renS (seenOf D nmJ))) ∧ V.grownBy w' none) := fun V hV => renew_j V base b D who (R.keep hV) h
  have HCh : Hid (∀ V p cap, PgA V p m (fun k => (T k : Int)) P → Calls Try.prog 27 #[.agg #[.pointer (some ⟨b, 0, none⟩)], .int .i64 (old : Int), .slice p m cap] V fun e w' => (∃ q c', e = .returned (.slice q (m + 4) c') ∧ StA w' b q (m + 4) (chgS old m T P)) ∧ V.grownBy w' none) := fun V p cap hp => change_j V b old (by omega) p m cap T P hp (by omega) (fun j hj => by have := hT.low j hj; omega)
  have HDo : Hid (∀ V q c', w.grownBy V none → RM w D V base b D who → Blk V w.heap.size #[.pointer (some ⟨b, 0, none⟩)] 53 → StA V b q (2 + (m + 4)) (catS (renS (seenOf D nmJ)) 2 (chgS old m T P)) → Calls Try.prog 25 #[.slice q (2 + (m + 4)) c'] V fun e w' => e = .returned (.int .i64 7) ∧ (∃ D' who', Dcr r w D base b w' Q i (2 + (m + 4)) D' who') ∧ Blk w' w.heap.size #[.pointer (some ⟨b, 0, none⟩)] 53) := fun V q c' hV hrm hbx hst => by
    refine (do_cr V base b D who (R.keep hV) hr h q (2 + (m + 4)) c' (bakS (seenOf D) old m T P) hst hi hok hf hQ).mono ?_
    rintro e w' ⟨rfl, D', who', hd⟩
    exact ⟨rfl, ⟨D', who', hrm.trans hd.rm, hd.jx, hd.down, hd.safe⟩, hd.rm.blk (R.keep hV) hbx okT53⟩
  have HR := hideJ R
  have HM := hideJ hm
  have HG := hideJ hg0
  have HB := hideJ hb0
  have cb := box_cell hb0
  generalize hCS : chgS old m T P = CS at HCh HDo
  generalize hRS : renS (seenOf D nmJ) = RS at HRn HDo
  clear R h hH hP hT ho hm hcx hi hok hg0 hb0 hCS hRS hf hr
  go_enter Try.func23, Try.ntmps23
  go_upto_region 4 with (first
    | (go_at_call 35; (with_reducible refine Calls.mono (HKp.out _ HG.out) ?_); rintro e w1 ⟨⟨q1, c1, rfl, hp1⟩, hg⟩; have HP1 := hideJ hp1; have HG1 := hideJ (grown_trans' HG.out hg); have HB1 := hideJ (Blk.grown HB.out hg); clear hg hp1))
  have HSG : Hid (∀ V, w1.drew.grownBy V none → V.cell? ⟨w.heap.size, 0, none⟩ = some (.pointer (some ⟨b, 0, none⟩))) := fun V hV => box_cell (Blk.grown (box_drew HB1.out) hV)
  have HS0 := hideJ (HSG.out _ (grown_refl _))
  have HD1 := hideJ (grown_trans' HG1.out (World.grownBy_drew w1))
  clear cb
  go_region_held3 (fun V => V.cell? ⟨w.heap.size, 0, none⟩ = some (.pointer (some ⟨b, 0, none⟩))) (first | with_reducible exact HS0.out | with_reducible exact HS1.out | with_reducible exact HS2.out | with_reducible exact HS3.out | with_reducible exact HS4.out) (first
    | (go_at_call 36; (with_reducible refine Calls.mono (HRn.out _ HD1.out) ?_); rintro e y1 ⟨⟨v1, rfl, hst⟩, hg⟩; obtain ⟨p1, k1, rfl, -⟩ := hst.form; have HSt := hideJ hst; have HY1 := hideJ hg; have HS1 := hideJ (HSG.out _ hg); clear hst hg)
    | (go_at_call 27; (with_reducible refine Calls.mono (HCh.out _ _ _ ((HP1.out.grown (World.grownBy_drew _)).grown HY1.out)) ?_); rintro e y2 ⟨⟨q2, c2, rfl, hsa⟩, hg⟩; have HSa := hideJ hsa; have HSt2 := hideJ (HSt.out.grown hg); have HY2 := hideJ (grown_trans' HY1.out hg); have HS2 := hideJ (HSG.out _ (grown_trans' HY1.out hg)); clear hsa hg)
    | (refine step_appG (base := w1.drew.heap.size) HSt2.out HSa.out (by omega) (by have := HM.out; omega) HY2.out.size _ _ (by rfl) (by rfl) (by rfl) (by rfl) ?_; intro p3 k3 w3 hst3 hap3; obtain ⟨q3, c3, e3, hA3⟩ := hst3.form; cases e3; have HA3 := hideJ hA3; have HG3 := hideJ (hap3.grown w HD1.out.size (grown_trans' HD1.out HY2.out)); have HS3 := hideJ (box_cell (hap3.box (Blk.grown (box_drew HB1.out) HY2.out))); have HB3 := hideJ (hap3.box (Blk.grown (box_drew HB1.out) HY2.out)); clear hst3 hap3 hA3)
    | (go_at_call 25; (with_reducible refine Calls.mono (HDo.out _ _ _ HG3.out ((RM.start HR.out).grown HG3.out) HB3.out HA3.out) ?_); rintro e y4 ⟨rfl, ⟨D4, who4, hc4⟩, hb4⟩; have HC4 := hideJ hc4; have HS4 := hideJ (box_cell hb4); clear hc4 hb4))
  all_goals (try go_wp2)
  go_ret
  exact ⟨rfl, D4, who4, HC4.out⟩
end Go.Proofs.Ytfcgjedanhmpiaa

namespace Go.Proofs.Ytfcgjedanhmpiaa
open Go.ChangeShapes Go.WideShapes Go.ChangeAt Go.RowKit
open Go.ChangeMaps (setBlock)
set_option linter.unusedVariables false

/-- How a commit ends on a disk that may crash. -/
structure Cx (w : World) (D : DS) (base b : Nat) (r : Int) (i : Nat) (w' : World) (old count n : Nat) (N : Nat → Nat) (L : Nat → List UInt8) (m : Nat) (tl : List Nat) (T : Nat → Nat) (P : Nat → List UInt8) (x : Int) : Prop where
  ex : (x = 0 ∧ ∃ D' who' i', RM w D w' base b D' who' ∧ JI r D' i' ∧ i' ≤ i + 100 ∧ D'.chs = [] ∧ Cd (seenOf D' nmJ) ∧ Aft (seenOf D nmD) (seenOf D' nmD) count n N L ∧ (D.fuse = 0 → D'.fuse = 0)) ∨
    (x = 7 ∧ D.fuse ≠ 0 ∧ ∃ D' who' i' new, RM w D w' base b D' who' ∧ JX r D' i' ∧ i' ≤ i + 100 ∧ D'.down = true ∧ Safe (Good (seenOf D nmD) new old m tl T P) (psOf D') ∧ Aft (seenOf D nmD) new count n N L)
theorem ps_clean {r : Int} {D : DS} {i : Nat} (h : JX r D i) (hc : D.chs = []) (nm : ByteArray) : keptOf D nm = seenOf D nm := by
  have := h.full nm
  rw [hc] at this
  exact this
theorem ps_see {r : Int} {D : DS} {i : Nat} (h : JX r D i) (hc : (psOf D).cs = []) (nm : ByteArray) : (psOf D).K nm = seenOf D nm := ps_clean h hc nm

set_option maxHeartbeats 16000000 in
theorem commit_x (w : World) (base b : Nat) (D : DS) (who : Nat → Nat) (R : Rep w base b D who) {r : Int} (hr : 20000 ≤ r) {i : Nat} (h : JI r D i) (hch : D.chs = []) (count old : Nat) (hold : (seenOf D nmD).length = 256 * old) (ho : old ≤ 15) (hcount : count ≤ 15) (p : Option Addr) (n cap : Nat) (N : Nat → Nat) (L : Nat → List UInt8) (hp : PgA w p n (fun k => (N k : Int)) L) (hL : ∀ j, j < n → (L j).length = 256) (hn : n ≤ 15) (hi : i ≤ 10000)
    (hmay : MayF old count n (fun k => (N k : Int))) (hN : Rise count n N) (hall : ∀ p, old < p → p ≤ count → ∃ j, j < n ∧ N j = p) (hcold : Cd (seenOf D nmJ)) (T : Nat → Nat) (P : Nat → List UInt8) (m : Nat) (hT : T = touT old count n N) (hP : P = fun j => pgL (seenOf D nmD) (T j)) (hm : m = (touchL old count n N).length) :
    Calls Try.prog 8 #[.pointer (some ⟨b, 0, none⟩), .int .i64 (count : Int), .slice p n cap] w fun e w' => ∃ x : Int, e = .returned (.int .i64 x) ∧ Cx w D base b r i w' old count n N L m (touchL old count n N) T P x := by
  have hrise := touT_rise (old := old) hN
  rw [← hT, ← hm] at hrise
  have hm15 : m ≤ 15 := by rw [hm]; exact Nat.le_trans (touch_few hN) ho
  have hP6 : ∀ k, k < m → (P k).length = 256 := fun k hk => by
    have := hrise.low k hk
    rw [hP]; exact pgL_length this.1 (by omega)
  have HG0 : Hid (w.grownBy (w.alloc (.cells #[.pointer (some ⟨b, 0, none⟩)] 53)) none) := World.grownBy_alloc w (.cells #[.pointer (some ⟨b, 0, none⟩)] 53) none
  have HB0 : Hid (Blk (w.alloc (.cells #[.pointer (some ⟨b, 0, none⟩)] 53)) w.heap.size #[.pointer (some ⟨b, 0, none⟩)] 53) := alloc_new _ _
  have HRf := hideJ (fun V (hV : w.grownBy V none) => refusal_j V base b D who (R.keep hV) h)
  have HCt : Hid (∀ V, w.grownBy V none → Calls Try.prog 9 #[.pointer (some ⟨b, 0, none⟩)] V fun e w' => e = .returned (.int .i64 (old : Int)) ∧ V.grownBy w' none) := fun V hV => by
    have := count_j V base b D who (R.keep hV) h
    rw [show (seenOf D nmD).length / 256 = old by omega] at this
    exact this
  have HMf : Hid (∀ V, w.grownBy V none → Calls Try.prog 24 #[.int .i64 (old : Int), .int .i64 (count : Int), .slice p n cap] V fun e w' => e = .returned (.bool true) ∧ V.grownBy w' none) := fun V hV => by
    have := mayFollow_j V (old : Int) (count : Int) (by omega) p n cap (fun k => (N k : Int)) L (hp.grown hV) (by omega)
    rw [mayB_iff.2 hmay] at this
    exact this
  have HHt := hideJ (fun V (hV : w.grownBy V none) => hot_j V base b D who (R.keep hV) h false (by rw [hcold.hd.1]; rfl))
  have HAs := hideJ (fun V (hV : w.grownBy V none) => aside_any V base b D who (R.keep hV) h count old hold (by omega) p n cap N L (hp.grown hV) (by omega) hN T P m hT hP hm)
  obtain ⟨S1, hS1⟩ : ∃ S1, S1 = asdS (seenOf D nmJ) old m T P := ⟨_, rfl⟩
  have ok1 : ∀ k, k < 2 + m + 3 → (S1 k).ok (vw (seenOf D) S1 k) := by rw [hS1]; exact asd_ok (seenOf D) hP6 hm15
  have HR := hideJ R
  have HP := hideJ hp
  have HB53 := hideJ okT53
  obtain ⟨F1, hF1⟩ : ∃ F1, F1 = vw (seenOf D) S1 (2 + m + 3) := ⟨_, rfl⟩
  have hF1D : F1 nmD = seenOf D nmD := by rw [hF1, hS1]; exact asd_db _ _
  have hF1J : Hotv (F1 nmJ) old m T P := by rw [hF1, hS1]; exact asd_end (seenOf D) hP6 (by omega) (by omega)
  obtain ⟨new, hnew⟩ : ∃ new, new = vw F1 (chgS count n N L) (n + 2) nmD := ⟨_, rfl⟩
  have hcx : 256 * count ≤ (F1 nmD).length ∨ ∃ j, j < n ∧ N j = count := by
    by_cases c : count ≤ old
    · exact .inl (by rw [hF1D]; omega)
    · exact .inr (hall count (by omega) (Nat.le_refl _))
  have ok2 := chg_ok F1 hL (fun j hj => ⟨(hN.low j hj).1, by have := (hN.low j hj).2; omega⟩) hcx (by omega)
  have hend := chg_end F1 hL (fun j hj => (hN.low j hj).1) hcx
  have hAft : Aft (seenOf D nmD) new count n N L := by
    have e2 := hend.2.2.1 2 (by omega) (by omega)
    have e4 := hend.2.2.1 4 (by omega) (by omega)
    rw [hnew, e2, ← e4, ← hF1D]
    exact hend.1
  have hrun1 := aside_run (db := seenOf D nmD) (new := new) (tl := touchL old count n N) (T := T) hP6 hold (s := psOf D) hch (ps_clean h.toJX hch nmD) (ps_clean h.toJX hch nmJ) hcold
  rw [← hS1] at hrun1
  have hchg : ∀ (D1 : DS) (i1 : Nat), JI r D1 i1 → seenOf D1 = F1 → psOf D1 = pst (psOf D) S1 (2 + m + 3) → Run (Good (seenOf D nmD) new old m (touchL old count n N) T P) (psOf D1) (chgS count n N L) (n + 4) ∧ (pst (psOf D1) (chgS count n N L) (n + 4)).cs = [] ∧ Cd ((pst (psOf D1) (chgS count n N L) (n + 4)).K nmJ) ∧ (pst (psOf D1) (chgS count n N L) (n + 4)).K nmD = new := fun D1 i1 hj hs hps => by
    have hc1 : (psOf D1).cs = [] := by rw [hps]; exact hrun1.2.1
    have hsee : (psOf D1).see = F1 := by rw [hj.toJX.see, hs]
    have := change_run (db := seenOf D nmD) (new := new) (X := seenOf D nmD) (J := F1 nmJ) (cnt := count) (m := m) (tl := touchL old count n N) (T := T) (P := P) hL
      (fun j hj => ⟨(hN.low j hj).1, by
        rcases Nat.lt_or_ge old (N j) with c | c
        · exact .inr c
        · exact .inl (mem_touch.2 (.inl ⟨c, j, hj, rfl⟩))⟩)
      (fun p p1 p2 p3 => by
        rcases Nat.lt_or_ge count p with c | c
        · exact absurd (mem_touch.2 (.inr ⟨c, p2⟩)) p3
        · exact c) (s := psOf D1) hc1 (by rw [ps_see hj.toJX hc1, hs, hF1D]) (by rw [ps_see hj.toJX hc1, hs]) (Intact.self _ _ hold) hF1J.head ⟨hF1J.recs, hF1J.len⟩ (.inl (by rw [hsee]; exact hnew.symm))
    rw [hsee, ← hnew] at this
    exact this
  have HCh : Hid (∀ V, PgA V p n (fun k => (N k : Int)) L → Calls Try.prog 27 #[.agg #[.pointer (some ⟨b, 0, none⟩)], .int .i64 (count : Int), .slice p n cap] V fun e w' => (∃ q c', e = .returned (.slice q (n + 4) c') ∧ StA w' b q (n + 4) (chgS count n N L)) ∧ V.grownBy w' none) := fun V hV => change_j V b count (by omega) p n cap N L hV (by omega) (fun j hj => by have := hN.low j hj; omega)
  have h0 := h.fuse.1
  rw [← hS1] at HAs
  by_cases f1 : D.fuse = 0 ∨ ((2 + m + 3 : Nat) : Int) < D.fuse
  · have HDo1 : Hid (∀ V q c', w.grownBy V none → StA V b q (2 + m + 3) S1 → Calls Try.prog 25 #[.slice q (2 + m + 3) c'] V fun e w' => e = .returned (.int .i64 0) ∧ ∃ D' who', Dok r V D base b w' S1 (2 + m + 3) i D' who') := fun V q c' hV hst => do_ok V base b D who (R.keep hV) hr h q (2 + m + 3) c' S1 hst (by omega) ok1 f1
    by_cases f2 : D.fuse = 0 ∨ ((2 + m + 3 + (n + 4) : Nat) : Int) < D.fuse
    · have HDo2 : Hid (∀ V V0 V1 D1 who1 who2 q c', RM w D V base b D1 who1 → Dok r V0 D base b V1 S1 (2 + m + 3) i D1 who2 → StA V b q (n + 4) (chgS count n N L) → Calls Try.prog 25 #[.slice q (n + 4) c'] V fun e w' => e = .returned (.int .i64 0) ∧ Cx w D base b r i w' old count n N L m (touchL old count n N) T P 0) := fun V V0 V1 D1 who1 who2 q c' hrm hd hst => by
        have hs : seenOf D1 = F1 := by rw [hd.seen, ← hF1]
        have hcc := hchg D1 _ hd.ji hs hd.ps
        refine (do_ok V base b D1 who1 hrm.rep hr hd.ji q (n + 4) c' (chgS count n N L) hst (by omega) (fun k hk => by rw [hs]; exact ok2 k hk) (by rw [hd.fuse]; split <;> omega)).mono ?_
        rintro e w' ⟨rfl, D2, who3, h2⟩
        have hc2 : D2.chs = [] := by
          have := congrArg PS.cs h2.ps
          rw [hcc.2.1] at this
          exact this
        have hk : ∀ nm, seenOf D2 nm = (psOf D2).K nm := fun nm => (ps_clean h2.ji.toJX hc2 nm).symm
        refine ⟨rfl, ⟨.inl ⟨rfl, D2, who3, _, hrm.trans h2.rm, h2.ji, by omega, hc2, ?_, ?_, fun hz => ?_⟩⟩⟩
        · rw [hk, h2.ps]; exact hcc.2.2.1
        · rw [hk, h2.ps, hcc.2.2.2]; exact hAft
        · rw [h2.fuse, hd.fuse, if_pos hz, if_pos rfl]
      generalize hS2 : chgS count n N L = S2 at HCh HDo2
      clear R h hp hmay hcold hold hN hall hn hi hL hT hP hm hrise hm15 hP6 ok1 hS1 ho hcount hr hch hF1 hF1D hF1J hnew hcx ok2 hend hAft hrun1 hchg h0 f1 hS2 f2
      go_enter Try.func8, Try.ntmps8
      go_wp2_with (first
        | (go_at_call 21; (with_reducible refine Calls.mono (HRf.out _ HG0.out) ?_); rintro e w1 ⟨rfl, hg⟩; have HG1 := hideJ (grown_trans' HG0.out hg); have HB1 := hideJ (Blk.grown HB0.out hg); clear hg)
        | (go_at_call 9; (with_reducible refine Calls.mono (HCt.out _ HG1.out) ?_); rintro e w2 ⟨rfl, hg⟩; have HG2 := hideJ (grown_trans' HG1.out hg); have HB2 := hideJ (Blk.grown HB1.out hg); clear hg)
        | (go_at_call 24; (with_reducible refine Calls.mono (HMf.out _ HG2.out) ?_); rintro e w3 ⟨rfl, hg⟩; have HG3 := hideJ (grown_trans' HG2.out hg); have HB3 := hideJ (Blk.grown HB2.out hg); clear hg)
        | (go_at_call 10; (with_reducible refine Calls.mono (HHt.out _ HG3.out) ?_); rintro e w4 ⟨rfl, hg⟩; have HG4 := hideJ (grown_trans' HG3.out hg); have HB4 := hideJ (Blk.grown HB3.out hg); have cb4 := box_cell HB4.out; clear hg)
        | (go_at_call 26; (with_reducible refine Calls.mono (HAs.out _ HG4.out) ?_); rintro e w5 ⟨⟨q5, c5, rfl, hst5⟩, hg⟩; have HG5 := hideJ (grown_trans' HG4.out hg); have HB5 := hideJ (Blk.grown HB4.out hg); have HS5 := hideJ hst5; clear hg hst5 cb4)
        | (go_at_call 25; (with_reducible refine Calls.mono (HDo1.out _ _ _ HG5.out HS5.out) ?_); rintro e w6 ⟨rfl, D6, who6, hd6⟩; have HR6 := hideJ (((RM.start HR.out).grown HG5.out).trans hd6.rm); have HD6 := hideJ hd6; have HB6 := hideJ (hd6.rm.blk (HR.out.keep HG5.out) HB5.out HB53.out); have cb6 := box_cell HB6.out; clear hd6)
        | (go_at_call 27; (with_reducible refine Calls.mono (HCh.out _ (HP.out.moved HR.out HR6.out)) ?_); rintro e w7 ⟨⟨q7, c7, rfl, hst7⟩, hg⟩; have HR7 := hideJ (HR6.out.grown hg); have HS7 := hideJ hst7; clear hg hst7)
        | (go_at_call 25; (with_reducible refine Calls.mono (HDo2.out _ _ _ _ _ _ _ _ HR7.out HD6.out HS7.out) ?_); rintro e w8 ⟨rfl, hc8⟩; have HC8 := hideJ hc8; clear hc8))
      go_ret
      exact ⟨0, rfl, HC8.out⟩
    · have HDo2 : Hid (∀ V V0 V1 D1 who1 who2 q c', RM w D V base b D1 who1 → Dok r V0 D base b V1 S1 (2 + m + 3) i D1 who2 → StA V b q (n + 4) (chgS count n N L) → Calls Try.prog 25 #[.slice q (n + 4) c'] V fun e w' => e = .returned (.int .i64 7) ∧ Cx w D base b r i w' old count n N L m (touchL old count n N) T P 7) := fun V V0 V1 D1 who1 who2 q c' hrm hd hst => by
        have hs : seenOf D1 = F1 := by rw [hd.seen, ← hF1]
        have hcc := hchg D1 _ hd.ji hs hd.ps
        refine (do_cr V base b D1 who1 hrm.rep hr hd.ji q (n + 4) c' (chgS count n N L) hst (by omega) (fun k hk => by rw [hs]; exact ok2 k hk) (by rw [hd.fuse]; split <;> omega) hcc.1).mono ?_
        rintro e w' ⟨rfl, D2, who3, h2⟩
        exact ⟨rfl, ⟨.inr ⟨rfl, by omega, D2, who3, _, new, hrm.trans h2.rm, h2.jx, by omega, h2.down, h2.safe, hAft⟩⟩⟩
      generalize hS2 : chgS count n N L = S2 at HCh HDo2
      clear R h hp hmay hcold hold hN hall hn hi hL hT hP hm hrise hm15 hP6 ok1 hS1 ho hcount hr hch hF1 hF1D hF1J hnew hcx ok2 hend hAft hrun1 hchg h0 f1 hS2 f2
      go_enter Try.func8, Try.ntmps8
      go_wp2_with (first
        | (go_at_call 21; (with_reducible refine Calls.mono (HRf.out _ HG0.out) ?_); rintro e w1 ⟨rfl, hg⟩; have HG1 := hideJ (grown_trans' HG0.out hg); have HB1 := hideJ (Blk.grown HB0.out hg); clear hg)
        | (go_at_call 9; (with_reducible refine Calls.mono (HCt.out _ HG1.out) ?_); rintro e w2 ⟨rfl, hg⟩; have HG2 := hideJ (grown_trans' HG1.out hg); have HB2 := hideJ (Blk.grown HB1.out hg); clear hg)
        | (go_at_call 24; (with_reducible refine Calls.mono (HMf.out _ HG2.out) ?_); rintro e w3 ⟨rfl, hg⟩; have HG3 := hideJ (grown_trans' HG2.out hg); have HB3 := hideJ (Blk.grown HB2.out hg); clear hg)
        | (go_at_call 10; (with_reducible refine Calls.mono (HHt.out _ HG3.out) ?_); rintro e w4 ⟨rfl, hg⟩; have HG4 := hideJ (grown_trans' HG3.out hg); have HB4 := hideJ (Blk.grown HB3.out hg); have cb4 := box_cell HB4.out; clear hg)
        | (go_at_call 26; (with_reducible refine Calls.mono (HAs.out _ HG4.out) ?_); rintro e w5 ⟨⟨q5, c5, rfl, hst5⟩, hg⟩; have HG5 := hideJ (grown_trans' HG4.out hg); have HB5 := hideJ (Blk.grown HB4.out hg); have HS5 := hideJ hst5; clear hg hst5 cb4)
        | (go_at_call 25; (with_reducible refine Calls.mono (HDo1.out _ _ _ HG5.out HS5.out) ?_); rintro e w6 ⟨rfl, D6, who6, hd6⟩; have HR6 := hideJ (((RM.start HR.out).grown HG5.out).trans hd6.rm); have HD6 := hideJ hd6; have HB6 := hideJ (hd6.rm.blk (HR.out.keep HG5.out) HB5.out HB53.out); have cb6 := box_cell HB6.out; clear hd6)
        | (go_at_call 27; (with_reducible refine Calls.mono (HCh.out _ (HP.out.moved HR.out HR6.out)) ?_); rintro e w7 ⟨⟨q7, c7, rfl, hst7⟩, hg⟩; have HR7 := hideJ (HR6.out.grown hg); have HS7 := hideJ hst7; clear hg hst7)
        | (go_at_call 25; (with_reducible refine Calls.mono (HDo2.out _ _ _ _ _ _ _ _ HR7.out HD6.out HS7.out) ?_); rintro e w8 ⟨rfl, hc8⟩; have HC8 := hideJ hc8; clear hc8))
      go_ret
      exact ⟨7, rfl, HC8.out⟩
  · have HDo1 : Hid (∀ V q c', w.grownBy V none → RM w D V base b D who → StA V b q (2 + m + 3) S1 → Calls Try.prog 25 #[.slice q (2 + m + 3) c'] V fun e w' => e = .returned (.int .i64 7) ∧ Cx w D base b r i w' old count n N L m (touchL old count n N) T P 7) := fun V q c' hV hrm hst => by
      refine (do_cr V base b D who (R.keep hV) hr h q (2 + m + 3) c' S1 hst (by omega) ok1 f1 hrun1.1).mono ?_
      rintro e w' ⟨rfl, D2, who3, h2⟩
      exact ⟨rfl, ⟨.inr ⟨rfl, by omega, D2, who3, _, new, hrm.trans h2.rm, h2.jx, by omega, h2.down, h2.safe, hAft⟩⟩⟩
    clear R h hp hmay hcold hold hN hall hn hi hL hT hP hm hrise hm15 hP6 ok1 hS1 ho hcount hr hch hF1 hF1D hF1J hnew hcx ok2 hend hAft hrun1 hchg h0 f1
    go_enter Try.func8, Try.ntmps8
    go_wp2_with (first
      | (go_at_call 21; (with_reducible refine Calls.mono (HRf.out _ HG0.out) ?_); rintro e w1 ⟨rfl, hg⟩; have HG1 := hideJ (grown_trans' HG0.out hg); have HB1 := hideJ (Blk.grown HB0.out hg); clear hg)
      | (go_at_call 9; (with_reducible refine Calls.mono (HCt.out _ HG1.out) ?_); rintro e w2 ⟨rfl, hg⟩; have HG2 := hideJ (grown_trans' HG1.out hg); have HB2 := hideJ (Blk.grown HB1.out hg); clear hg)
      | (go_at_call 24; (with_reducible refine Calls.mono (HMf.out _ HG2.out) ?_); rintro e w3 ⟨rfl, hg⟩; have HG3 := hideJ (grown_trans' HG2.out hg); have HB3 := hideJ (Blk.grown HB2.out hg); clear hg)
      | (go_at_call 10; (with_reducible refine Calls.mono (HHt.out _ HG3.out) ?_); rintro e w4 ⟨rfl, hg⟩; have HG4 := hideJ (grown_trans' HG3.out hg); have HB4 := hideJ (Blk.grown HB3.out hg); have cb4 := box_cell HB4.out; clear hg)
      | (go_at_call 26; (with_reducible refine Calls.mono (HAs.out _ HG4.out) ?_); rintro e w5 ⟨⟨q5, c5, rfl, hst5⟩, hg⟩; have HG5 := hideJ (grown_trans' HG4.out hg); have HB5 := hideJ (Blk.grown HB4.out hg); have HS5 := hideJ hst5; clear hg hst5 cb4)
      | (go_at_call 25; (with_reducible refine Calls.mono (HDo1.out _ _ _ HG5.out ((RM.start HR.out).grown HG5.out) HS5.out) ?_); rintro e w6 ⟨rfl, hc6⟩; have HC6 := hideJ hc6; clear hc6))
    go_ret
    exact ⟨7, rfl, HC6.out⟩

theorem recover_cold (w : World) (base b : Nat) (D : DS) (who : Nat → Nat) (R : Rep w base b D who) {r : Int} {i : Nat} (h : JI r D i) (hc : hdw (seenOf D nmJ) 0 = 0) :
    Calls Try.prog 7 #[.pointer (some ⟨b, 0, none⟩)] w fun e w' => e = .returned (.tuple #[.bool false, .int .i64 0]) ∧ w.grownBy w' none := by
  have HG0 : Hid (w.grownBy (w.alloc (.cells #[.pointer (some ⟨b, 0, none⟩)] 53)) none) := World.grownBy_alloc w (.cells #[.pointer (some ⟨b, 0, none⟩)] 53) none
  have HRf := hideJ (fun V (hV : w.grownBy V none) => refusal_j V base b D who (R.keep hV) h)
  have HHt := hideJ (fun V (hV : w.grownBy V none) => hot_j V base b D who (R.keep hV) h false (by rw [hc]; rfl))
  clear R h hc
  go_enter Try.func7, Try.ntmps7
  go_wp2_with (first
    | (go_at_call 21; (with_reducible refine Calls.mono (HRf.out _ HG0.out) ?_); rintro e w1 ⟨rfl, hg⟩; have HG1 := hideJ (grown_trans' HG0.out hg); clear hg)
    | (go_at_call 10; (with_reducible refine Calls.mono (HHt.out _ HG1.out) ?_); rintro e w2 ⟨rfl, hg⟩; have HG2 := hideJ (grown_trans' HG1.out hg); clear hg))
  go_ret2
  exact ⟨rfl, HG2.out⟩

set_option maxHeartbeats 4000000 in
theorem recover_hot0 (w : World) (base b : Nat) (D : DS) (who : Nat → Nat) (R : Rep w base b D who) {r : Int} {i : Nat} (h : JI r D i) (hc : hdw (seenOf D nmJ) 0 ≠ 0) (Post : World → Prop)
    (htb : ∀ V, w.grownBy V none → RM w D V base b D who → Calls Try.prog 23 #[.agg #[.pointer (some ⟨b, 0, none⟩)]] V fun e w' => e = .returned (.int .i64 0) ∧ Post w') :
    Calls Try.prog 7 #[.pointer (some ⟨b, 0, none⟩)] w fun e w' => e = .returned (.tuple #[.bool true, .int .i64 0]) ∧ Post w' := by
  have HG0 : Hid (w.grownBy (w.alloc (.cells #[.pointer (some ⟨b, 0, none⟩)] 53)) none) := World.grownBy_alloc w (.cells #[.pointer (some ⟨b, 0, none⟩)] 53) none
  have HB0 : Hid (Blk (w.alloc (.cells #[.pointer (some ⟨b, 0, none⟩)] 53)) w.heap.size #[.pointer (some ⟨b, 0, none⟩)] 53) := alloc_new _ _
  have HRf := hideJ (fun V (hV : w.grownBy V none) => refusal_j V base b D who (R.keep hV) h)
  have HHt := hideJ (fun V (hV : w.grownBy V none) => hot_j V base b D who (R.keep hV) h true (by simp [hc]))
  have HTb := hideJ htb
  have HR := hideJ R
  clear R h hc htb
  go_enter Try.func7, Try.ntmps7
  go_wp2_with (first
    | (go_at_call 21; (with_reducible refine Calls.mono (HRf.out _ HG0.out) ?_); rintro e w1 ⟨rfl, hg⟩; have HG1 := hideJ (grown_trans' HG0.out hg); have HB1 := hideJ (Blk.grown HB0.out hg); clear hg)
    | (go_at_call 10; (with_reducible refine Calls.mono (HHt.out _ HG1.out) ?_); rintro e w2 ⟨rfl, hg⟩; have HG2 := hideJ (grown_trans' HG1.out hg); have cb2 := box_cell (Blk.grown HB1.out hg); clear hg)
    | (go_at_call 23; (with_reducible refine Calls.mono (HTb.out _ HG2.out ((RM.start HR.out).grown HG2.out)) ?_); rintro e w3 ⟨rfl, hp⟩; have HP3 := hideJ hp; clear hp))
  go_ret2
  exact ⟨rfl, HP3.out⟩

set_option maxHeartbeats 4000000 in
theorem recover_hot7 (w : World) (base b : Nat) (D : DS) (who : Nat → Nat) (R : Rep w base b D who) {r : Int} {i : Nat} (h : JI r D i) (hc : hdw (seenOf D nmJ) 0 ≠ 0) (Post : World → Prop)
    (htb : ∀ V, w.grownBy V none → RM w D V base b D who → Calls Try.prog 23 #[.agg #[.pointer (some ⟨b, 0, none⟩)]] V fun e w' => e = .returned (.int .i64 7) ∧ Post w') :
    Calls Try.prog 7 #[.pointer (some ⟨b, 0, none⟩)] w fun e w' => e = .returned (.tuple #[.bool false, .int .i64 7]) ∧ Post w' := by
  have HG0 : Hid (w.grownBy (w.alloc (.cells #[.pointer (some ⟨b, 0, none⟩)] 53)) none) := World.grownBy_alloc w (.cells #[.pointer (some ⟨b, 0, none⟩)] 53) none
  have HB0 : Hid (Blk (w.alloc (.cells #[.pointer (some ⟨b, 0, none⟩)] 53)) w.heap.size #[.pointer (some ⟨b, 0, none⟩)] 53) := alloc_new _ _
  have HRf := hideJ (fun V (hV : w.grownBy V none) => refusal_j V base b D who (R.keep hV) h)
  have HHt := hideJ (fun V (hV : w.grownBy V none) => hot_j V base b D who (R.keep hV) h true (by simp [hc]))
  have HTb := hideJ htb
  have HR := hideJ R
  clear R h hc htb
  go_enter Try.func7, Try.ntmps7
  go_wp2_with (first
    | (go_at_call 21; (with_reducible refine Calls.mono (HRf.out _ HG0.out) ?_); rintro e w1 ⟨rfl, hg⟩; have HG1 := hideJ (grown_trans' HG0.out hg); have HB1 := hideJ (Blk.grown HB0.out hg); clear hg)
    | (go_at_call 10; (with_reducible refine Calls.mono (HHt.out _ HG1.out) ?_); rintro e w2 ⟨rfl, hg⟩; have HG2 := hideJ (grown_trans' HG1.out hg); have cb2 := box_cell (Blk.grown HB1.out hg); clear hg)
    | (go_at_call 23; (with_reducible refine Calls.mono (HTb.out _ HG2.out ((RM.start HR.out).grown HG2.out)) ?_); rintro e w3 ⟨rfl, hp⟩; have HP3 := hideJ hp; clear hp))
  go_ret2
  exact ⟨rfl, HP3.out⟩
end Go.Proofs.Ytfcgjedanhmpiaa
