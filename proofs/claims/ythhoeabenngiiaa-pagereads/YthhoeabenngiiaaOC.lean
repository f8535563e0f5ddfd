/- The walk of PageReads of a page that may be. -/
import Derived.Test.YthhoeabenngiiaaOB
import Derived.Test.YthhoeabenngiiaaNI
import Derived.Test.YthhoeabenngiiaaGR
namespace Go.Proofs.Ythhoeabenngiiaa
open Go.ChangeShapes Go.WideShapes Go.ChangeAt Go.RowKit
set_option linter.unusedVariables false

set_option maxHeartbeats 16000000 in
set_option maxRecDepth 10000 in
theorem reads_ok (l : List UInt8) (hl : l.length = 256) (bk bL bn : Nat) (hbk : bk < 256) (S : Nat → ByteArray) (R i early ec : Int) (cS : ByteArray)
    (hRd : ∀ V, Calls Try.prog 8 #[.agg (bc l)] V fun e w' => ∃ p, (∃ cc, e = .returned (bodyV true (bk : Int) (bL : Int) (.slice p bn cc))) ∧ StrP w' p bn S ∧ Below V.heap.size V w')
    (hRr : ∀ V p cc, StrP V p bn S → Calls Try.prog 9 #[bodyV true (bk : Int) (bL : Int) (.slice p bn cc)] V fun e w' => e = .returned (.int .i64 R) ∧ Below V.heap.size V w')
    (hCk : ∀ V, Calls Try.prog 10 #[.agg (bcl l).toArray] V fun e w' => e = .returned (.int .i64 0) ∧ Below V.heap.size V w')
    (hKd : ∀ V, Calls Try.prog 11 #[.agg (bcl l).toArray] V fun e w' => e = .returned (.int .u8 (bk : Int)) ∧ Below V.heap.size V w')
    (hCn : ∀ V, Calls Try.prog 12 #[.agg (bcl l).toArray] V fun e w' => e = .returned (.int .i64 (bn : Int)) ∧ Below V.heap.size V w')
    (hLk : ∀ V, Calls Try.prog 13 #[.agg (bcl l).toArray] V fun e w' => e = .returned (.int .u32 (bL : Int)) ∧ Below V.heap.size V w')
    (hRm : ∀ V, Calls Try.prog 14 #[.agg (bcl l).toArray] V fun e w' => e = .returned (.int .i64 R) ∧ Below V.heap.size V w')
    (hCe : ∀ V, Calls Try.prog 15 #[.agg (bc l), .int .i64 i] V fun e w' => e = .returned (.tuple #[.string cS, .int .i64 ec]) ∧ Below V.heap.size V w')
    (hGo : ∀ V p cc, StrP V p bn S → Calls Try.prog 16 #[.agg (bc l), .slice p bn cc, .int .i64 early] V fun e w' => e = .returned (.bool true) ∧ Below V.heap.size V w')
    (hOut : (i < 0 ∨ (bn : Int) ≤ i) → cS = ⟨#[]⟩ ∧ ec = 4) (hIn : ∀ m : Nat, i = (m : Int) → m < bn → cS = S m ∧ ec = 0)
    (w : World) :
    Calls Try.prog 3 #[.agg (bc l), .int .i64 i, .int .i64 early] w fun e w' => e = .returned (.bool true) ∧ Below w.heap.size w w' := by
  have HP0 : Hid (PAt (w.alloc (.cells (bc l) 23)) w.heap.size l) := PAt.new w l
  have HW0 := hide (new_below w (pgO l) rfl)
  have HL := hide hl
  have HRd := hide hRd
  have HRr := hide hRr
  have HCk := hide hCk
  have HKd := hide hKd
  have HCn := hide hCn
  have HLk := hide hLk
  have HRm := hide hRm
  have HCe := hide hCe
  have HGo := hide hGo
  have HOut := hide hOut
  have HIn := hide hIn
  clear hOut hIn
  have hu := page_arr
  have hi : (Try.prog.info? 23).map (·.size) = some (bcl l).length := page_size hl
  have hw8 : IntKind.i64.wrap (bk : Int) = (bk : Int) := by rw [IntKind.wrap_i64]; omega
  clear hl hRd hRr hCk hKd hCn hLk hRm hCe hGo hbk
  go_enter Try.func3, Try.ntmps3
  go_upto_region 5 with (first
    | ((with_reducible refine atL ?_); refine wp_loadP HL.out HP0.out _ (by rfl) (by rfl) (by rfl) ?_)
    | (go_at_call 8; with_reducible refine Calls.mono (HRd.out _) ?_; rintro e w1 ⟨p, ⟨cc, rfl⟩, hstr, hb⟩; have HW1 := hide (below_trans HW0.out hb); have HPp := hide (fun V (hV : Below w1.heap.size w1 V) => (HP0.out.later hb).later hV); have HS := hide (fun V (hV : Below w1.heap.size w1 V) => StrP.later hstr hV); have HM := hide (Pg.start w1 (bodyC true (bk : Int) (bL : Int) (.slice p bn cc))); clear hb hstr))
  obtain ⟨⟨d0, d1, d2, d3⟩, _⟩ := res4 (HM.out.here (w1.heap.size, bodyC true (bk : Int) (bL : Int) (.slice p bn cc)) (.head _))
  go_upto_region 6 with (first
    | (go_at_call 9; with_reducible refine Calls.mono (HRr.out _ _ _ (HS.out _ HM.out.below)) ?_; rintro e w2 ⟨rfl, hb⟩; have HM := hide (HM.out.later hb); clear hb))
  clear d0 d1 d2 d3
  obtain ⟨⟨d0, d1, d2, d3⟩, _⟩ := res4 (HM.out.here (w1.heap.size, bodyC true (bk : Int) (bL : Int) (.slice p bn cc)) (.head _))
  go_upto_region 8 with fail
  clear d0 d1 d2 d3
  have HSt : Hid (∀ V, Pg w1 V [(w1.heap.size, bodyC true (bk : Int) (bL : Int) (.slice p bn cc))] → V.rangeAt w.heap.size 0 (bcl l) ∧ V.cell? ⟨w1.heap.size, 1, none⟩ = some (.int .i64 (bk : Int)) ∧ V.cell? ⟨w1.heap.size, 2, none⟩ = some (.int .u32 (bL : Int)) ∧ V.cell? ⟨w1.heap.size, 3, none⟩ = some (.slice p bn cc)) := fun V h => by
    obtain ⟨⟨_, e1, e2, e3⟩, _⟩ := res4 (h.here (w1.heap.size, bodyC true (bk : Int) (bL : Int) (.slice p bn cc)) (.head _))
    exact ⟨(HPp.out V h.below).range, e1, e2, e3⟩
  go_cut [53] from 21 to 52 (fun v53 V => v53 = .bool false ∧ Pg w1 V [(w1.heap.size, bodyC true (bk : Int) (bL : Int) (.slice p bn cc))])
  case first =>
    have HMd := HM.out.later (Below.refl _ w2).drew
    refine wp_region_held_drew (S := fun V => V.rangeAt w.heap.size 0 (bcl l) ∧ V.cell? ⟨w1.heap.size, 1, none⟩ = some (.int .i64 (bk : Int)) ∧ V.cell? ⟨w1.heap.size, 2, none⟩ = some (.int .u32 (bL : Int)) ∧ V.cell? ⟨w1.heap.size, 3, none⟩ = some (.slice p bn cc)) (by kernel_rfl) (HSt.out _ HMd) ?_
    generalize World.drew w2 = V0 at HMd ⊢
    intro hHeld
    have HM := hide HMd
    clear HMd
    refine wpAnyH_take (i := 0) (v := .agg (bcl l).toArray) rfl (by kernel_rfl) (by kernel_rfl) (by kernel_rfl) (fun _ _ _ h => h) (yieldsIf_load_mid (by rfl) _ _ rfl _ _ rfl _ _ (fun V hV => hV.1) hu rfl hi) hHeld ?_
    try simp only [Act.put, List.getElem_toArray, List.getElem_cons_zero, List.setIfInBounds_toArray, List.set_cons_zero, List.set_cons_succ]
    refine wpAnyH_take (i := 2) (v := .int .i64 0) rfl (by kernel_rfl) (by kernel_rfl) (by kernel_rfl) (fun _ _ _ h => h) (Or.inl ⟨by rfl, fun V hV => by (obtain ⟨hr, f1, f2, f3⟩ := hV; go_simp)⟩) hHeld ?_
    try simp only [Act.put, List.getElem_toArray, List.getElem_cons_succ, List.getElem_cons_zero, List.setIfInBounds_toArray, List.set_cons_zero, List.set_cons_succ]
    refine wpAnyH_ready (rs := [1]) (by kernel_rfl) (by simp) ?_
    refine AllReadyH.cons rfl (fun K hK => ?_) AllReadyH.nil
    go_simp
    go_at_call 10; with_reducible refine Calls.mono (HCk.out _) ?_; rintro e Vn ⟨rfl, hb⟩; have HM := hide (HM.out.later hb); clear hb
    go_wp2_with fail
    refine hK.out _ _ (HSt.out _ HM.out) (fun hHeld => ?_)
    clear hK K
    try simp only [Act.put, List.getElem_toArray, List.getElem_cons_succ, List.getElem_cons_zero, List.setIfInBounds_toArray, List.set_cons_zero, List.set_cons_succ]
    refine wpAnyH_take (i := 3) (v := .bool false) rfl (by kernel_rfl) (by kernel_rfl) (by kernel_rfl) (fun _ _ _ h => h) (Or.inl ⟨by rfl, fun V hV => by (obtain ⟨hr, f1, f2, f3⟩ := hV; go_simp)⟩) hHeld ?_
    try simp only [Act.put, List.getElem_toArray, List.getElem_cons_succ, List.getElem_cons_zero, List.setIfInBounds_toArray, List.set_cons_zero, List.set_cons_succ]
    refine wpAnyH_take (i := 4) (v := .bool false) rfl (by kernel_rfl) (by kernel_rfl) (by kernel_rfl) (fun _ _ _ h => h) (Or.inl ⟨by rfl, fun V hV => by (obtain ⟨hr, f1, f2, f3⟩ := hV; go_simp)⟩) hHeld ?_
    try simp only [Act.put, List.getElem_toArray, List.getElem_cons_succ, List.getElem_cons_zero, List.setIfInBounds_toArray, List.set_cons_zero, List.set_cons_succ]
    refine wpAnyH_take (i := 5) (v := .agg (bcl l).toArray) rfl (by kernel_rfl) (by kernel_rfl) (by kernel_rfl) (fun _ _ _ h => h) (yieldsIf_load_mid (by rfl) _ _ rfl _ _ rfl _ _ (fun V hV => hV.1) hu rfl hi) hHeld ?_
    try simp only [Act.put, List.getElem_toArray, List.getElem_cons_succ, List.getElem_cons_zero, List.setIfInBounds_toArray, List.set_cons_zero, List.set_cons_succ]
    refine wpAnyH_take (i := 8) (v := .pointer (some ⟨w1.heap.size, 1, none⟩)) rfl (by kernel_rfl) (by kernel_rfl) (by kernel_rfl) (fun _ _ _ h => h) (Or.inl ⟨by rfl, fun V hV => by (obtain ⟨hr, f1, f2, f3⟩ := hV; go_simp)⟩) hHeld ?_
    try simp only [Act.put, List.getElem_toArray, List.getElem_cons_succ, List.getElem_cons_zero, List.setIfInBounds_toArray, List.set_cons_zero, List.set_cons_succ]
    refine wpAnyH_take (i := 9) (v := .int .i64 (bk : Int)) rfl (by kernel_rfl) (by kernel_rfl) (by kernel_rfl) (fun _ _ _ h => h) (Or.inl ⟨by rfl, fun V hV => by (obtain ⟨hr, f1, f2, f3⟩ := hV; go_simp)⟩) hHeld ?_
    try simp only [Act.put, List.getElem_toArray, List.getElem_cons_succ, List.getElem_cons_zero, List.setIfInBounds_toArray, List.set_cons_zero, List.set_cons_succ]
    refine wpAnyH_ready (rs := [6]) (by kernel_rfl) (by simp) ?_
    refine AllReadyH.cons rfl (fun K hK => ?_) AllReadyH.nil
    go_simp
    go_at_call 11; with_reducible refine Calls.mono (HKd.out _) ?_; rintro e Vn ⟨rfl, hb⟩; have HM := hide (HM.out.later hb); clear hb
    go_wp2_with fail
    refine hK.out _ _ (HSt.out _ HM.out) (fun hHeld => ?_)
    clear hK K
    try simp only [Act.put, List.getElem_toArray, List.getElem_cons_succ, List.getElem_cons_zero, List.setIfInBounds_toArray, List.set_cons_zero, List.set_cons_succ]
    refine wpAnyH_take (i := 7) (v := .int .i64 (bk : Int)) rfl (by kernel_rfl) (by kernel_rfl) (by kernel_rfl) (fun _ _ _ h => h) (Or.inl ⟨by rfl, fun V hV => by (obtain ⟨hr, f1, f2, f3⟩ := hV; go_simp)⟩) hHeld ?_
    try simp only [Act.put, List.getElem_toArray, List.getElem_cons_succ, List.getElem_cons_zero, List.setIfInBounds_toArray, List.set_cons_zero, List.set_cons_succ]
    refine wpAnyH_take (i := 10) (v := .bool false) rfl (by kernel_rfl) (by kernel_rfl) (by kernel_rfl) (fun _ _ _ h => h) (Or.inl ⟨by rfl, fun V hV => by (obtain ⟨hr, f1, f2, f3⟩ := hV; go_simp)⟩) hHeld ?_
    try simp only [Act.put, List.getElem_toArray, List.getElem_cons_succ, List.getElem_cons_zero, List.setIfInBounds_toArray, List.set_cons_zero, List.set_cons_succ]
    refine wpAnyH_take (i := 11) (v := .bool false) rfl (by kernel_rfl) (by kernel_rfl) (by kernel_rfl) (fun _ _ _ h => h) (Or.inl ⟨by rfl, fun V hV => by (obtain ⟨hr, f1, f2, f3⟩ := hV; go_simp)⟩) hHeld ?_
    try simp only [Act.put, List.getElem_toArray, List.getElem_cons_succ, List.getElem_cons_zero, List.setIfInBounds_toArray, List.set_cons_zero, List.set_cons_succ]
    refine wpAnyH_take (i := 12) (v := .bool false) rfl (by kernel_rfl) (by kernel_rfl) (by kernel_rfl) (fun _ _ _ h => h) (Or.inl ⟨by rfl, fun V hV => by (obtain ⟨hr, f1, f2, f3⟩ := hV; go_simp)⟩) hHeld ?_
    try simp only [Act.put, List.getElem_toArray, List.getElem_cons_succ, List.getElem_cons_zero, List.setIfInBounds_toArray, List.set_cons_zero, List.set_cons_succ]
    refine wpAnyH_take (i := 13) (v := .agg (bcl l).toArray) rfl (by kernel_rfl) (by kernel_rfl) (by kernel_rfl) (fun _ _ _ h => h) (yieldsIf_load_mid (by rfl) _ _ rfl _ _ rfl _ _ (fun V hV => hV.1) hu rfl hi) hHeld ?_
    try simp only [Act.put, List.getElem_toArray, List.getElem_cons_succ, List.getElem_cons_zero, List.setIfInBounds_toArray, List.set_cons_zero, List.set_cons_succ]
    refine wpAnyH_take (i := 15) (v := .pointer (some ⟨w1.heap.size, 3, none⟩)) rfl (by kernel_rfl) (by kernel_rfl) (by kernel_rfl) (fun _ _ _ h => h) (Or.inl ⟨by rfl, fun V hV => by (obtain ⟨hr, f1, f2, f3⟩ := hV; go_simp)⟩) hHeld ?_
    try simp only [Act.put, List.getElem_toArray, List.getElem_cons_succ, List.getElem_cons_zero, List.setIfInBounds_toArray, List.set_cons_zero, List.set_cons_succ]
    refine wpAnyH_take (i := 16) (v := .slice p bn cc) rfl (by kernel_rfl) (by kernel_rfl) (by kernel_rfl) (fun _ _ _ h => h) (Or.inl ⟨by rfl, fun V hV => by (obtain ⟨hr, f1, f2, f3⟩ := hV; go_simp)⟩) hHeld ?_
    try simp only [Act.put, List.getElem_toArray, List.getElem_cons_succ, List.getElem_cons_zero, List.setIfInBounds_toArray, List.set_cons_zero, List.set_cons_succ]
    refine wpAnyH_take (i := 17) (v := .int .i64 (bn : Int)) rfl (by kernel_rfl) (by kernel_rfl) (by kernel_rfl) (fun _ _ _ h => h) (Or.inl ⟨by rfl, fun V hV => by (obtain ⟨hr, f1, f2, f3⟩ := hV; go_simp)⟩) hHeld ?_
    try simp only [Act.put, List.getElem_toArray, List.getElem_cons_succ, List.getElem_cons_zero, List.setIfInBounds_toArray, List.set_cons_zero, List.set_cons_succ]
    refine wpAnyH_ready (rs := [14]) (by kernel_rfl) (by simp) ?_
    refine AllReadyH.cons rfl (fun K hK => ?_) AllReadyH.nil
    go_simp
    go_at_call 12; with_reducible refine Calls.mono (HCn.out _) ?_; rintro e Vn ⟨rfl, hb⟩; have HM := hide (HM.out.later hb); clear hb
    go_wp2_with fail
    refine hK.out _ _ (HSt.out _ HM.out) (fun hHeld => ?_)
    clear hK K
    try simp only [Act.put, List.getElem_toArray, List.getElem_cons_succ, List.getElem_cons_zero, List.setIfInBounds_toArray, List.set_cons_zero, List.set_cons_succ]
    refine wpAnyH_take (i := 18) (v := .bool false) rfl (by kernel_rfl) (by kernel_rfl) (by kernel_rfl) (fun _ _ _ h => h) (Or.inl ⟨by rfl, fun V hV => by (obtain ⟨hr, f1, f2, f3⟩ := hV; go_simp)⟩) hHeld ?_
    try simp only [Act.put, List.getElem_toArray, List.getElem_cons_succ, List.getElem_cons_zero, List.setIfInBounds_toArray, List.set_cons_zero, List.set_cons_succ]
    refine wpAnyH_take (i := 19) (v := .bool false) rfl (by kernel_rfl) (by kernel_rfl) (by kernel_rfl) (fun _ _ _ h => h) (Or.inl ⟨by rfl, fun V hV => by (obtain ⟨hr, f1, f2, f3⟩ := hV; go_simp)⟩) hHeld ?_
    try simp only [Act.put, List.getElem_toArray, List.getElem_cons_succ, List.getElem_cons_zero, List.setIfInBounds_toArray, List.set_cons_zero, List.set_cons_succ]
    refine wpAnyH_take (i := 20) (v := .bool false) rfl (by kernel_rfl) (by kernel_rfl) (by kernel_rfl) (fun _ _ _ h => h) (Or.inl ⟨by rfl, fun V hV => by (obtain ⟨hr, f1, f2, f3⟩ := hV; go_simp)⟩) hHeld ?_
    try simp only [Act.put, List.getElem_toArray, List.getElem_cons_succ, List.getElem_cons_zero, List.setIfInBounds_toArray, List.set_cons_zero, List.set_cons_succ]
    refine wpAnyH_take (i := 21) (v := .agg (bcl l).toArray) rfl (by kernel_rfl) (by kernel_rfl) (by kernel_rfl) (fun _ _ _ h => h) (yieldsIf_load_mid (by rfl) _ _ rfl _ _ rfl _ _ (fun V hV => hV.1) hu rfl hi) hHeld ?_
    try simp only [Act.put, List.getElem_toArray, List.getElem_cons_succ, List.getElem_cons_zero, List.setIfInBounds_toArray, List.set_cons_zero, List.set_cons_succ]
    refine wpAnyH_take (i := 23) (v := .pointer (some ⟨w1.heap.size, 2, none⟩)) rfl (by kernel_rfl) (by kernel_rfl) (by kernel_rfl) (fun _ _ _ h => h) (Or.inl ⟨by rfl, fun V hV => by (obtain ⟨hr, f1, f2, f3⟩ := hV; go_simp)⟩) hHeld ?_
    try simp only [Act.put, List.getElem_toArray, List.getElem_cons_succ, List.getElem_cons_zero, List.setIfInBounds_toArray, List.set_cons_zero, List.set_cons_succ]
    refine wpAnyH_take (i := 24) (v := .int .u32 (bL : Int)) rfl (by kernel_rfl) (by kernel_rfl) (by kernel_rfl) (fun _ _ _ h => h) (Or.inl ⟨by rfl, fun V hV => by (obtain ⟨hr, f1, f2, f3⟩ := hV; go_simp)⟩) hHeld ?_
    try simp only [Act.put, List.getElem_toArray, List.getElem_cons_succ, List.getElem_cons_zero, List.setIfInBounds_toArray, List.set_cons_zero, List.set_cons_succ]
    refine wpAnyH_ready (rs := [22]) (by kernel_rfl) (by simp) ?_
    refine AllReadyH.cons rfl (fun K hK => ?_) AllReadyH.nil
    go_simp
    go_at_call 13; with_reducible refine Calls.mono (HLk.out _) ?_; rintro e Vn ⟨rfl, hb⟩; have HM := hide (HM.out.later hb); clear hb
    go_wp2_with fail
    refine hK.out _ _ (HSt.out _ HM.out) (fun hHeld => ?_)
    clear hK K
    try simp only [Act.put, List.getElem_toArray, List.getElem_cons_succ, List.getElem_cons_zero, List.setIfInBounds_toArray, List.set_cons_zero, List.set_cons_succ]
    refine wpAnyH_take (i := 25) (v := .bool false) rfl (by kernel_rfl) (by kernel_rfl) (by kernel_rfl) (fun _ _ _ h => h) (Or.inl ⟨by rfl, fun V hV => by (obtain ⟨hr, f1, f2, f3⟩ := hV; go_simp)⟩) hHeld ?_
    try simp only [Act.put, List.getElem_toArray, List.getElem_cons_succ, List.getElem_cons_zero, List.setIfInBounds_toArray, List.set_cons_zero, List.set_cons_succ]
    refine wpAnyH_take (i := 26) (v := .bool false) rfl (by kernel_rfl) (by kernel_rfl) (by kernel_rfl) (fun _ _ _ h => h) (Or.inl ⟨by rfl, fun V hV => by (obtain ⟨hr, f1, f2, f3⟩ := hV; go_simp)⟩) hHeld ?_
    try simp only [Act.put, List.getElem_toArray, List.getElem_cons_succ, List.getElem_cons_zero, List.setIfInBounds_toArray, List.set_cons_zero, List.set_cons_succ]
    refine wpAnyH_take (i := 27) (v := .bool false) rfl (by kernel_rfl) (by kernel_rfl) (by kernel_rfl) (fun _ _ _ h => h) (Or.inl ⟨by rfl, fun V hV => by (obtain ⟨hr, f1, f2, f3⟩ := hV; go_simp)⟩) hHeld ?_
    try simp only [Act.put, List.getElem_toArray, List.getElem_cons_succ, List.getElem_cons_zero, List.setIfInBounds_toArray, List.set_cons_zero, List.set_cons_succ]
    refine wpAnyH_take (i := 28) (v := .agg (bcl l).toArray) rfl (by kernel_rfl) (by kernel_rfl) (by kernel_rfl) (fun _ _ _ h => h) (yieldsIf_load_mid (by rfl) _ _ rfl _ _ rfl _ _ (fun V hV => hV.1) hu rfl hi) hHeld ?_
    try simp only [Act.put, List.getElem_toArray, List.getElem_cons_succ, List.getElem_cons_zero, List.setIfInBounds_toArray, List.set_cons_zero, List.set_cons_succ]
    refine wpAnyH_take (i := 30) (v := .int .i64 R) rfl (by kernel_rfl) (by kernel_rfl) (by kernel_rfl) (fun _ _ _ h => h) (Or.inl ⟨by rfl, fun V hV => by (obtain ⟨hr, f1, f2, f3⟩ := hV; go_simp)⟩) hHeld ?_
    try simp only [Act.put, List.getElem_toArray, List.getElem_cons_succ, List.getElem_cons_zero, List.setIfInBounds_toArray, List.set_cons_zero, List.set_cons_succ]
    refine wpAnyH_ready (rs := [29]) (by kernel_rfl) (by simp) ?_
    refine AllReadyH.cons rfl (fun K hK => ?_) AllReadyH.nil
    go_simp
    go_at_call 14; with_reducible refine Calls.mono (HRm.out _) ?_; rintro e Vn ⟨rfl, hb⟩; have HM := hide (HM.out.later hb); clear hb
    go_wp2_with fail
    refine hK.out _ _ (HSt.out _ HM.out) (fun hHeld => ?_)
    clear hK K
    try simp only [Act.put, List.getElem_toArray, List.getElem_cons_succ, List.getElem_cons_zero, List.setIfInBounds_toArray, List.set_cons_zero, List.set_cons_succ]
    refine wpAnyH_take (i := 31) (v := .bool false) rfl (by kernel_rfl) (by kernel_rfl) (by kernel_rfl) (fun _ _ _ h => h) (Or.inl ⟨by rfl, fun V hV => by (obtain ⟨hr, f1, f2, f3⟩ := hV; go_simp)⟩) hHeld ?_
    try simp only [Act.put, List.getElem_toArray, List.getElem_cons_succ, List.getElem_cons_zero, List.setIfInBounds_toArray, List.set_cons_zero, List.set_cons_succ]
    refine wpAnyH_take (i := 32) (v := .bool false) rfl (by kernel_rfl) (by kernel_rfl) (by kernel_rfl) (fun _ _ _ h => h) (Or.inl ⟨by rfl, fun V hV => by (obtain ⟨hr, f1, f2, f3⟩ := hV; go_simp)⟩) hHeld ?_
    try simp only [Act.put, List.getElem_toArray, List.getElem_cons_succ, List.getElem_cons_zero, List.setIfInBounds_toArray, List.set_cons_zero, List.set_cons_succ]
    refine wpAnyH_done (by kernel_rfl) ?_ _
    go_wp2_with fail
    go_meet
    exact ⟨rfl, HM.out⟩
  case rest =>
    obtain ⟨rfl, hMx⟩ := hcut
    have HM := hide hMx
    clear hMx
    go_upto_region 11 with (first
      | ((with_reducible refine atL ?_); refine wp_loadP HL.out (HPp.out _ HM.out.below) _ (by rfl) (by rfl) (by rfl) ?_)
      | (go_at_call 15; with_reducible refine Calls.mono (HCe.out _) ?_; rintro e w3 ⟨rfl, hb⟩; have HM := hide (HM.out.later hb); clear hb))
    obtain ⟨⟨d0, d1, d2, d3⟩, _⟩ := res4 (HM.out.here (w1.heap.size, bodyC true (bk : Int) (bL : Int) (.slice p bn cc)) (.head _))
    by_cases h0 : i < 0
    · obtain ⟨rfl, rfl⟩ := HOut.out (.inl h0)
      go_wp2_with (first
        | ((with_reducible refine atL ?_); refine wp_loadPG HL.out (HPp.out _ HM.out.below) _ (by rfl) (by rfl) (by rfl) ?_)
        | (go_at_call 16; with_reducible refine Calls.mono (HGo.out _ _ _ (HS.out _ HM.out.below)) ?_; rintro e w4 ⟨rfl, hb⟩; have HM := hide (HM.out.later hb); clear hb)
        | (go_at_call 17; with_reducible refine Calls.mono (awake_walk _) ?_; rintro e w5 ⟨rfl, hb⟩; have HM := hide (HM.out.later hb); clear hb))
      go_ret
      exact ⟨rfl, below_trans HW1.out HM.out.below⟩
    by_cases h1 : (bn : Int) ≤ i
    · obtain ⟨rfl, rfl⟩ := HOut.out (.inr h1)
      have g0 : decide (i < 0) = false := decide_eq_false h0
      go_wp2_with (first
        | ((with_reducible refine atL ?_); refine wp_loadPG HL.out (HPp.out _ HM.out.below) _ (by rfl) (by rfl) (by rfl) ?_)
        | (go_at_call 16; with_reducible refine Calls.mono (HGo.out _ _ _ (HS.out _ HM.out.below)) ?_; rintro e w4 ⟨rfl, hb⟩; have HM := hide (HM.out.later hb); clear hb)
        | (go_at_call 17; with_reducible refine Calls.mono (awake_walk _) ?_; rintro e w5 ⟨rfl, hb⟩; have HM := hide (HM.out.later hb); clear hb))
      go_ret
      exact ⟨rfl, below_trans HW1.out HM.out.below⟩
    · obtain ⟨m, rfl⟩ : ∃ m : Nat, i = (m : Int) := ⟨i.toNat, by omega⟩
      obtain ⟨rfl, rfl⟩ := HIn.out m rfl (by omega)
      obtain ⟨g, rfl, hst⟩ := (HS.out _ HM.out.below) (by omega)
      have hcs := hst m (by omega)
      rw [Nat.zero_add] at hcs
      have hl2 : (m : Int) < (bn : Int) := by omega
      have hl0 : (0 : Int) ≤ (m : Int) := by omega
      go_wp2_with (first
        | ((with_reducible refine atL ?_); refine wp_loadPG HL.out (HPp.out _ HM.out.below) _ (by rfl) (by rfl) (by rfl) ?_)
        | (go_at_call 16; with_reducible refine Calls.mono (HGo.out _ _ _ (HS.out _ HM.out.below)) ?_; rintro e w4 ⟨rfl, hb⟩; have HM := hide (HM.out.later hb); clear hb)
        | (go_at_call 17; with_reducible refine Calls.mono (awake_walk _) ?_; rintro e w5 ⟨rfl, hb⟩; have HM := hide (HM.out.later hb); clear hb))
      go_ret
      exact ⟨rfl, below_trans HW1.out HM.out.below⟩
end Go.Proofs.Ythhoeabenngiiaa
