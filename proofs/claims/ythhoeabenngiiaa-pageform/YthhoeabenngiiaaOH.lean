/- The walk of PageForm of a page that may be. -/
import Derived.Test.YthhoeabenngiiaaOF
import Derived.Test.YthhoeabenngiiaaOG
import Derived.Test.YthhoeabenngiiaaNI
import Derived.Test.YthhoeabenngiiaaGR
namespace Go.Proofs.Ythhoeabenngiiaa
open Go.ChangeShapes Go.WideShapes Go.ChangeAt Go.RowKit
set_option linter.unusedVariables false

theorem pg_nil (w : World) : Pg w w [] where
  here := fun q hq => by cases hq
  nd := by simp
  below := Below.refl _ _
  base := fun q hq => by cases hq
theorem pg_new2 {w X : World} {L : List (Nat × Obj)} (h : Pg w X L) (o o2 : Obj) : Pg w ((X.alloc o).alloc o2) ((X.heap.size, o) :: (X.heap.size + 1, o2) :: L) := by
  have := ((h.new o).new o2).swap
  simpa using this

set_option maxHeartbeats 16000000 in
set_option maxRecDepth 10000 in
theorem form_ok (l lin la lb : List UInt8) (hl : l.length = 256) (hlin : lin.length = 256) (hla : la.length = 256) (hlb : lb.length = 256) (bk bL bn : Nat) (S : Nat → ByteArray) (i n ein ec rp : Int) (cell : ByteArray) (hrp : 0 ≤ rp ∧ rp ≤ 250)
    (hCk : ∀ V, Calls Try.prog 10 #[.agg (bc l)] V fun e w' => e = .returned (.int .i64 0) ∧ Below V.heap.size V w')
    (hCs : ∀ V, Calls Try.prog 29 #[.agg (bc l)] V fun e w' => ∃ p, (∃ cc, e = .returned (.slice p bn cc) ∧ bn ≤ cc ∧ (p = none → cc = 0)) ∧ StrP w' p bn S ∧ Below V.heap.size V w')
    (hKd : ∀ V, Calls Try.prog 11 #[.agg (bcl l).toArray] V fun e w' => e = .returned (.int .u8 (bk : Int)) ∧ Below V.heap.size V w')
    (hLk : ∀ V, Calls Try.prog 13 #[.agg (bcl l).toArray] V fun e w' => e = .returned (.int .u32 (bL : Int)) ∧ Below V.heap.size V w')
    (hNw : ∀ V p cc, StrP V p bn S → bn ≤ cc → (p = none → cc = 0) → Calls Try.prog 18 #[.int .u8 (bk : Int), .int .u32 (bL : Int), .slice p bn cc] V fun e w' => e = .returned (.tuple #[.agg (bc l), .int .i64 0]) ∧ Below V.heap.size V w')
    (hIn : ∀ V, Calls Try.prog 20 #[.agg (bc l), .int .i64 i, .string cell] V fun e w' => e = .returned (.tuple #[.agg (bc lin), .int .i64 ein]) ∧ Below V.heap.size V w')
    (hDl : ein = 0 → ∀ V, Calls Try.prog 21 #[.agg (bc lin), .int .i64 i] V fun e w' => e = .returned (.tuple #[.agg (bc l), .int .i64 0]) ∧ Below V.heap.size V w')
    (hCl : ein = 0 → ∀ V, Calls Try.prog 15 #[.agg (bc lin), .int .i64 i] V fun e w' => e = .returned (.tuple #[.string cell, .int .i64 0]) ∧ Below V.heap.size V w')
    (hRi : ein = 0 → ∀ V, Calls Try.prog 14 #[.agg (bcl lin).toArray] V fun e w' => e = .returned (.int .i64 (rp - 1 - (cell.size : Int))) ∧ Below V.heap.size V w')
    (hRp : ∀ V, Calls Try.prog 14 #[.agg (bcl l).toArray] V fun e w' => e = .returned (.int .i64 rp) ∧ Below V.heap.size V w')
    (hCi : ein = 0 → ∀ V, Calls Try.prog 10 #[.agg (bcl lin).toArray] V fun e w' => e = .returned (.int .i64 0) ∧ Below V.heap.size V w')
    (hsz : ein = 0 → cell.size ≤ 60)
    (hCu : ∀ V, Calls Try.prog 26 #[.agg (bc l), .int .i64 n] V fun e w' => e = .returned (.tuple #[.agg (bc la), .agg (bc lb), .int .i64 ec]) ∧ Below V.heap.size V w')
    (hE4 : ec ≠ 0 → ec = 4)
    (hJo : ec = 0 → ∀ V, Calls Try.prog 27 #[.agg (bc la), .agg (bc lb)] V fun e w' => e = .returned (.tuple #[.agg (bc l), .int .i64 0]) ∧ Below V.heap.size V w')
    (hCa : ec = 0 → ∀ V, Calls Try.prog 12 #[.agg (bc la)] V fun e w' => e = .returned (.int .i64 n) ∧ Below V.heap.size V w')
    (hKa : ec = 0 → ∀ V, Calls Try.prog 10 #[.agg (bc la)] V fun e w' => e = .returned (.int .i64 0) ∧ Below V.heap.size V w')
    (hKb : ec = 0 → ∀ V, Calls Try.prog 10 #[.agg (bc lb)] V fun e w' => e = .returned (.int .i64 0) ∧ Below V.heap.size V w') (w : World) :
    Calls Try.prog 7 #[.agg (bc l), .int .i64 i, .string cell, .int .i64 n] w fun e w' => e = .returned (.bool true) ∧ Below w.heap.size w w' := by
  have HP0 : Hid (PAt (w.alloc (.cells (bc l) 23)) w.heap.size l) := PAt.new w l
  have HW0 := hide (new_below w (pgO l) rfl)
  have HL := hide hl
  have HLin := hide hlin
  have HLa := hide hla
  have HLb := hide hlb
  have HRb := hide hrp
  have HCk := hide hCk
  have HCs := hide hCs
  have HKd := hide hKd
  have HLk := hide hLk
  have HNw := hide hNw
  have HIn := hide hIn
  have HDl := hide hDl
  have HCl := hide hCl
  have HRi := hide hRi
  have HRp := hide hRp
  have HCi := hide hCi
  have HCu := hide hCu
  have HJo := hide hJo
  have HCa := hide hCa
  have HKa := hide hKa
  have HKb := hide hKb
  have HSz := hide hsz
  have HE4 := hide hE4
  have hu := page_arr
  have hi : (Try.prog.info? 23).map (·.size) = some (bcl l).length := page_size hl
  have hin : (Try.prog.info? 23).map (·.size) = some (bcl lin).length := page_size hlin
  have hz := zero_page.1
  have hbu := built_page
  have hnq : ∀ V, (binOp .neq 23 (.agg (bc l)) (.agg (bc l))).run Try.prog V = .ok (.bool false) V := neq_page_any hl
  clear hl hlin hla hlb hrp hCk hCs hKd hLk hNw hIn hDl hCl hRi hRp hCi hCu hJo hCa hKa hKb hsz hE4
  go_enter Try.func7, Try.ntmps7
  go_upto_region 4 with (first
    | ((with_reducible refine atL ?_); refine wp_loadP HL.out HP0.out _ (by rfl) (by rfl) (by rfl) ?_)
    | ((with_reducible refine atL ?_); refine wp_loadP HL.out HP1.out _ (by rfl) (by rfl) (by rfl) ?_)
    | (go_at_call 10; with_reducible refine Calls.mono (HCk.out _) ?_; rintro e w1 ⟨rfl, hb⟩; have HW1 := hide (below_trans HW0.out hb); have HP1 := hide (HP0.out.later hb); clear hb)
    | (go_at_call 29; with_reducible refine Calls.mono (HCs.out _) ?_; rintro e w2 ⟨p, ⟨cc, rfl, hcc⟩, hstr, hb⟩; have HW2 := hide (below_trans HW1.out hb); have HPp := hide (fun V (hV : Below w2.heap.size w2 V) => (HP1.out.later hb).later hV); have HS := hide (fun V (hV : Below w2.heap.size w2 V) => StrP.later hstr hV); have HCc := hide hcc; clear hb hstr hcc))
  have HM := hide (pg_nil w2)
  go_cut [10, 11] from 31 to 39 (fun v10 v11 V => ∃ g, v10 = .pointer (some ⟨g, 0, none⟩) ∧ v11 = .int .i64 0 ∧ Pg w2 V [(g, pgO l)])
  case first =>
    have HMd := HM.out.later (Below.refl _ w2).drew
    refine wp_region_held_drew (S := fun V => V.rangeAt w.heap.size 0 (bcl l)) (by kernel_rfl) ((HPp.out _ HMd.below).range) ?_
    generalize World.drew w2 = V0 at HMd ⊢
    intro hHeld
    have HM := hide HMd
    clear HMd
    refine wpAnyH_take (i := 0) (v := .agg (bcl l).toArray) rfl (by kernel_rfl) (by kernel_rfl) (by kernel_rfl) (fun _ _ _ h => h) (yieldsIf_load_mid (by rfl) _ _ rfl _ _ rfl _ _ (fun V hV => hV) hu rfl hi) hHeld ?_
    try simp only [Act.put, List.getElem_toArray, List.getElem_cons_zero, List.setIfInBounds_toArray, List.set_cons_zero, List.set_cons_succ]
    refine wpAnyH_take (i := 2) (v := .agg (bcl l).toArray) rfl (by kernel_rfl) (by kernel_rfl) (by kernel_rfl) (fun _ _ _ h => h) (yieldsIf_load_mid (by rfl) _ _ rfl _ _ rfl _ _ (fun V hV => hV) hu rfl hi) hHeld ?_
    try simp only [Act.put, List.getElem_toArray, List.getElem_cons_succ, List.getElem_cons_zero, List.setIfInBounds_toArray, List.set_cons_zero, List.set_cons_succ]
    refine wpAnyH_take (i := 4) (v := .slice p bn cc) rfl (by kernel_rfl) (by kernel_rfl) (by kernel_rfl) (fun _ _ _ h => h) (Or.inl ⟨by rfl, fun V hV => by (clear hV; go_simp)⟩) hHeld ?_
    try simp only [Act.put, List.getElem_toArray, List.getElem_cons_succ, List.getElem_cons_zero, List.setIfInBounds_toArray, List.set_cons_zero, List.set_cons_succ]
    refine wpAnyH_ready (rs := [1, 9]) (by kernel_rfl) (by simp) ?_
    refine (AllReadyH.cons rfl (fun K hK => ?_) (AllReadyH.cons rfl (fun K hK => ?_) AllReadyH.nil))
    · go_simp
      go_at_call 11; with_reducible refine Calls.mono (HKd.out _) ?_; rintro e V1 ⟨rfl, hb5⟩; have HM := hide (HM.out.later hb5); clear hb5
      go_wp2_with fail
      refine hK.out _ _ ((HPp.out _ HM.out.below).range) (fun hHeld => ?_)
      clear hK K
      try simp only [Act.put, List.getElem_toArray, List.getElem_cons_succ, List.getElem_cons_zero, List.setIfInBounds_toArray, List.set_cons_zero, List.set_cons_succ]
      refine wpAnyH_ready (rs := [3, 9]) (by kernel_rfl) (by simp) ?_
      refine (AllReadyH.cons rfl (fun K hK => ?_) (AllReadyH.cons rfl (fun K hK => ?_) AllReadyH.nil))
      · go_simp
        go_at_call 13; with_reducible refine Calls.mono (HLk.out _) ?_; rintro e V2 ⟨rfl, hb5⟩; have HM := hide (HM.out.later hb5); clear hb5
        go_wp2_with fail
        refine hK.out _ _ ((HPp.out _ HM.out.below).range) (fun hHeld => ?_)
        clear hK K
        try simp only [Act.put, List.getElem_toArray, List.getElem_cons_succ, List.getElem_cons_zero, List.setIfInBounds_toArray, List.set_cons_zero, List.set_cons_succ]
        refine wpAnyH_ready (rs := [5, 9]) (by kernel_rfl) (by simp) ?_
        refine (AllReadyH.cons rfl (fun K hK => ?_) (AllReadyH.cons rfl (fun K hK => ?_) AllReadyH.nil))
        · go_simp
          go_at_call 18; with_reducible refine Calls.mono (HNw.out _ _ _ (HS.out _ HM.out.below) HCc.out.1 HCc.out.2) ?_; rintro e V3 ⟨rfl, hb5⟩; have HM := hide (HM.out.later hb5); clear hb5
          go_wp2_with fail
          refine hK.out _ _ ((HPp.out _ HM.out.below).range) (fun hHeld => ?_)
          clear hK K
          try simp only [Act.put, List.getElem_toArray, List.getElem_cons_succ, List.getElem_cons_zero, List.setIfInBounds_toArray, List.set_cons_zero, List.set_cons_succ]
          refine wpAnyH_take (i := 6) (v := .tuple #[.agg (bc l), .int .i64 0]) rfl (by kernel_rfl) (by kernel_rfl) (by kernel_rfl) (fun _ _ _ h => h) (Or.inl ⟨by rfl, fun V hV => by (clear hV; go_simp)⟩) hHeld ?_
          try simp only [Act.put, List.getElem_toArray, List.getElem_cons_succ, List.getElem_cons_zero, List.setIfInBounds_toArray, List.set_cons_zero, List.set_cons_succ]
          refine wpAnyH_take (i := 7) (v := .agg (bc l)) rfl (by kernel_rfl) (by kernel_rfl) (by kernel_rfl) (fun _ _ _ h => h) (Or.inl ⟨by rfl, fun V hV => by (clear hV; go_simp)⟩) hHeld ?_
          try simp only [Act.put, List.getElem_toArray, List.getElem_cons_succ, List.getElem_cons_zero, List.setIfInBounds_toArray, List.set_cons_zero, List.set_cons_succ]
          refine wpAnyH_take (i := 8) (v := .int .i64 0) rfl (by kernel_rfl) (by kernel_rfl) (by kernel_rfl) (fun _ _ _ h => h) (Or.inl ⟨by rfl, fun V hV => by (clear hV; go_simp)⟩) hHeld ?_
          try simp only [Act.put, List.getElem_toArray, List.getElem_cons_succ, List.getElem_cons_zero, List.setIfInBounds_toArray, List.set_cons_zero, List.set_cons_succ]
          refine wpAnyH_ready (rs := [9]) (by kernel_rfl) (by simp) ?_
          refine (AllReadyH.cons rfl (fun K hK => ?_) AllReadyH.nil)
          have HMn := HM.out.new (pgO zs)
          go_simp
          refine hK.out _ _ ((HPp.out _ HMn.below).range) ?_
          clear hK K
          try simp only [Act.put, List.getElem_toArray, List.getElem_cons_succ, List.getElem_cons_zero, List.setIfInBounds_toArray, List.set_cons_zero, List.set_cons_succ]
          generalize World.alloc V3 (Obj.cells (bc zs) 23) = V4 at HMn ⊢
          intro hHeld
          have HM := hide HMn
          clear HMn
          refine wpAnyH_ready (rs := [10]) (by kernel_rfl) (by simp) ?_
          refine (AllReadyH.cons rfl (fun K hK => ?_) AllReadyH.nil)
          refine step_storeP HL.out zs_length (HM.out.here (_, pgO zs) (.head _)) _ _ (by rfl) (by rfl) (by rfl) (by rfl) ?_
          intro V5 hp hb hk
          have HM := hide (HM.out.put hp hb hk)
          clear hp hb hk
          refine hK.out _ _ ((HPp.out _ HM.out.below).range) (fun hHeld => ?_)
          clear hK K
          try simp only [Act.put, List.getElem_toArray, List.getElem_cons_succ, List.getElem_cons_zero]
          refine wpAnyH_take (i := 11) (v := .int .i64 0) rfl (by kernel_rfl) (by kernel_rfl) (by kernel_rfl) (fun _ _ _ h => h) (Or.inl ⟨by rfl, fun V hV => by (clear hV; go_simp)⟩) hHeld ?_
          try simp only [Act.put, List.getElem_toArray, List.getElem_cons_succ, List.getElem_cons_zero, List.setIfInBounds_toArray, List.set_cons_zero, List.set_cons_succ]
          refine wpAnyH_done (by kernel_rfl) ?_ _
          go_wp2_with fail
          go_meet
          exact ⟨_, rfl, rfl, HM.out⟩
        · have HMn := HM.out.new (pgO zs)
          go_simp
          refine hK.out _ _ ((HPp.out _ HMn.below).range) ?_
          clear hK K
          try simp only [Act.put, List.getElem_toArray, List.getElem_cons_succ, List.getElem_cons_zero, List.setIfInBounds_toArray, List.set_cons_zero, List.set_cons_succ]
          generalize World.alloc V2 (Obj.cells (bc zs) 23) = V6 at HMn ⊢
          intro hHeld
          have HM := hide HMn
          clear HMn
          refine wpAnyH_ready (rs := [5]) (by kernel_rfl) (by simp) ?_
          refine (AllReadyH.cons rfl (fun K hK => ?_) AllReadyH.nil)
          go_simp
          go_at_call 18; with_reducible refine Calls.mono (HNw.out _ _ _ (HS.out _ HM.out.below) HCc.out.1 HCc.out.2) ?_; rintro e V7 ⟨rfl, hb5⟩; have HM := hide (HM.out.later hb5); clear hb5
          go_wp2_with fail
          refine hK.out _ _ ((HPp.out _ HM.out.below).range) (fun hHeld => ?_)
          clear hK K
          try simp only [Act.put, List.getElem_toArray, List.getElem_cons_succ, List.getElem_cons_zero, List.setIfInBounds_toArray, List.set_cons_zero, List.set_cons_succ]
          refine wpAnyH_take (i := 6) (v := .tuple #[.agg (bc l), .int .i64 0]) rfl (by kernel_rfl) (by kernel_rfl) (by kernel_rfl) (fun _ _ _ h => h) (Or.inl ⟨by rfl, fun V hV => by (clear hV; go_simp)⟩) hHeld ?_
          try simp only [Act.put, List.getElem_toArray, List.getElem_cons_succ, List.getElem_cons_zero, List.setIfInBounds_toArray, List.set_cons_zero, List.set_cons_succ]
          refine wpAnyH_take (i := 7) (v := .agg (bc l)) rfl (by kernel_rfl) (by kernel_rfl) (by kernel_rfl) (fun _ _ _ h => h) (Or.inl ⟨by rfl, fun V hV => by (clear hV; go_simp)⟩) hHeld ?_
          try simp only [Act.put, List.getElem_toArray, List.getElem_cons_succ, List.getElem_cons_zero, List.setIfInBounds_toArray, List.set_cons_zero, List.set_cons_succ]
          refine wpAnyH_take (i := 8) (v := .int .i64 0) rfl (by kernel_rfl) (by kernel_rfl) (by kernel_rfl) (fun _ _ _ h => h) (Or.inl ⟨by rfl, fun V hV => by (clear hV; go_simp)⟩) hHeld ?_
          try simp only [Act.put, List.getElem_toArray, List.getElem_cons_succ, List.getElem_cons_zero, List.setIfInBounds_toArray, List.set_cons_zero, List.set_cons_succ]
          refine wpAnyH_ready (rs := [10]) (by kernel_rfl) (by simp) ?_
          refine (AllReadyH.cons rfl (fun K hK => ?_) AllReadyH.nil)
          refine step_storeP HL.out zs_length (HM.out.here (_, pgO zs) (.head _)) _ _ (by rfl) (by rfl) (by rfl) (by rfl) ?_
          intro V8 hp hb hk
          have HM := hide (HM.out.put hp hb hk)
          clear hp hb hk
          refine hK.out _ _ ((HPp.out _ HM.out.below).range) (fun hHeld => ?_)
          clear hK K
          try simp only [Act.put, List.getElem_toArray, List.getElem_cons_succ, List.getElem_cons_zero]
          refine wpAnyH_take (i := 11) (v := .int .i64 0) rfl (by kernel_rfl) (by kernel_rfl) (by kernel_rfl) (fun _ _ _ h => h) (Or.inl ⟨by rfl, fun V hV => by (clear hV; go_simp)⟩) hHeld ?_
          try simp only [Act.put, List.getElem_toArray, List.getElem_cons_succ, List.getElem_cons_zero, List.setIfInBounds_toArray, List.set_cons_zero, List.set_cons_succ]
          refine wpAnyH_done (by kernel_rfl) ?_ _
          go_wp2_with fail
          go_meet
          exact ⟨_, rfl, rfl, HM.out⟩
      · have HMn := HM.out.new (pgO zs)
        go_simp
        refine hK.out _ _ ((HPp.out _ HMn.below).range) ?_
        clear hK K
        try simp only [Act.put, List.getElem_toArray, List.getElem_cons_succ, List.getElem_cons_zero, List.setIfInBounds_toArray, List.set_cons_zero, List.set_cons_succ]
        generalize World.alloc V1 (Obj.cells (bc zs) 23) = V9 at HMn ⊢
        intro hHeld
        have HM := hide HMn
        clear HMn
        refine wpAnyH_ready (rs := [3]) (by kernel_rfl) (by simp) ?_
        refine (AllReadyH.cons rfl (fun K hK => ?_) AllReadyH.nil)
        go_simp
        go_at_call 13; with_reducible refine Calls.mono (HLk.out _) ?_; rintro e V10 ⟨rfl, hb5⟩; have HM := hide (HM.out.later hb5); clear hb5
        go_wp2_with fail
        refine hK.out _ _ ((HPp.out _ HM.out.below).range) (fun hHeld => ?_)
        clear hK K
        try simp only [Act.put, List.getElem_toArray, List.getElem_cons_succ, List.getElem_cons_zero, List.setIfInBounds_toArray, List.set_cons_zero, List.set_cons_succ]
        refine wpAnyH_ready (rs := [5]) (by kernel_rfl) (by simp) ?_
        refine (AllReadyH.cons rfl (fun K hK => ?_) AllReadyH.nil)
        go_simp
        go_at_call 18; with_reducible refine Calls.mono (HNw.out _ _ _ (HS.out _ HM.out.below) HCc.out.1 HCc.out.2) ?_; rintro e V11 ⟨rfl, hb5⟩; have HM := hide (HM.out.later hb5); clear hb5
        go_wp2_with fail
        refine hK.out _ _ ((HPp.out _ HM.out.below).range) (fun hHeld => ?_)
        clear hK K
        try simp only [Act.put, List.getElem_toArray, List.getElem_cons_succ, List.getElem_cons_zero, List.setIfInBounds_toArray, List.set_cons_zero, List.set_cons_succ]
        refine wpAnyH_take (i := 6) (v := .tuple #[.agg (bc l), .int .i64 0]) rfl (by kernel_rfl) (by kernel_rfl) (by kernel_rfl) (fun _ _ _ h => h) (Or.inl ⟨by rfl, fun V hV => by (clear hV; go_simp)⟩) hHeld ?_
        try simp only [Act.put, List.getElem_toArray, List.getElem_cons_succ, List.getElem_cons_zero, List.setIfInBounds_toArray, List.set_cons_zero, List.set_cons_succ]
        refine wpAnyH_take (i := 7) (v := .agg (bc l)) rfl (by kernel_rfl) (by kernel_rfl) (by kernel_rfl) (fun _ _ _ h => h) (Or.inl ⟨by rfl, fun V hV => by (clear hV; go_simp)⟩) hHeld ?_
        try simp only [Act.put, List.getElem_toArray, List.getElem_cons_succ, List.getElem_cons_zero, List.setIfInBounds_toArray, List.set_cons_zero, List.set_cons_succ]
        refine wpAnyH_take (i := 8) (v := .int .i64 0) rfl (by kernel_rfl) (by kernel_rfl) (by kernel_rfl) (fun _ _ _ h => h) (Or.inl ⟨by rfl, fun V hV => by (clear hV; go_simp)⟩) hHeld ?_
        try simp only [Act.put, List.getElem_toArray, List.getElem_cons_succ, List.getElem_cons_zero, List.setIfInBounds_toArray, List.set_cons_zero, List.set_cons_succ]
        refine wpAnyH_ready (rs := [10]) (by kernel_rfl) (by simp) ?_
        refine (AllReadyH.cons rfl (fun K hK => ?_) AllReadyH.nil)
        refine step_storeP HL.out zs_length (HM.out.here (_, pgO zs) (.head _)) _ _ (by rfl) (by rfl) (by rfl) (by rfl) ?_
        intro V12 hp hb hk
        have HM := hide (HM.out.put hp hb hk)
        clear hp hb hk
        refine hK.out _ _ ((HPp.out _ HM.out.below).range) (fun hHeld => ?_)
        clear hK K
        try simp only [Act.put, List.getElem_toArray, List.getElem_cons_succ, List.getElem_cons_zero]
        refine wpAnyH_take (i := 11) (v := .int .i64 0) rfl (by kernel_rfl) (by kernel_rfl) (by kernel_rfl) (fun _ _ _ h => h) (Or.inl ⟨by rfl, fun V hV => by (clear hV; go_simp)⟩) hHeld ?_
        try simp only [Act.put, List.getElem_toArray, List.getElem_cons_succ, List.getElem_cons_zero, List.setIfInBounds_toArray, List.set_cons_zero, List.set_cons_succ]
        refine wpAnyH_done (by kernel_rfl) ?_ _
        go_wp2_with fail
        go_meet
        exact ⟨_, rfl, rfl, HM.out⟩
    · have HMn := HM.out.new (pgO zs)
      go_simp
      refine hK.out _ _ ((HPp.out _ HMn.below).range) ?_
      clear hK K
      try simp only [Act.put, List.getElem_toArray, List.getElem_cons_succ, List.getElem_cons_zero, List.setIfInBounds_toArray, List.set_cons_zero, List.set_cons_succ]
      generalize World.alloc V0 (Obj.cells (bc zs) 23) = V13 at HMn ⊢
      intro hHeld
      have HM := hide HMn
      clear HMn
      refine wpAnyH_ready (rs := [1]) (by kernel_rfl) (by simp) ?_
      refine (AllReadyH.cons rfl (fun K hK => ?_) AllReadyH.nil)
      go_simp
      go_at_call 11; with_reducible refine Calls.mono (HKd.out _) ?_; rintro e V14 ⟨rfl, hb5⟩; have HM := hide (HM.out.later hb5); clear hb5
      go_wp2_with fail
      refine hK.out _ _ ((HPp.out _ HM.out.below).range) (fun hHeld => ?_)
      clear hK K
      try simp only [Act.put, List.getElem_toArray, List.getElem_cons_succ, List.getElem_cons_zero, List.setIfInBounds_toArray, List.set_cons_zero, List.set_cons_succ]
      refine wpAnyH_ready (rs := [3]) (by kernel_rfl) (by simp) ?_
      refine (AllReadyH.cons rfl (fun K hK => ?_) AllReadyH.nil)
      go_simp
      go_at_call 13; with_reducible refine Calls.mono (HLk.out _) ?_; rintro e V15 ⟨rfl, hb5⟩; have HM := hide (HM.out.later hb5); clear hb5
      go_wp2_with fail
      refine hK.out _ _ ((HPp.out _ HM.out.below).range) (fun hHeld => ?_)
      clear hK K
      try simp only [Act.put, List.getElem_toArray, List.getElem_cons_succ, List.getElem_cons_zero, List.setIfInBounds_toArray, List.set_cons_zero, List.set_cons_succ]
      refine wpAnyH_ready (rs := [5]) (by kernel_rfl) (by simp) ?_
      refine (AllReadyH.cons rfl (fun K hK => ?_) AllReadyH.nil)
      go_simp
      go_at_call 18; with_reducible refine Calls.mono (HNw.out _ _ _ (HS.out _ HM.out.below) HCc.out.1 HCc.out.2) ?_; rintro e V16 ⟨rfl, hb5⟩; have HM := hide (HM.out.later hb5); clear hb5
      go_wp2_with fail
      refine hK.out _ _ ((HPp.out _ HM.out.below).range) (fun hHeld => ?_)
      clear hK K
      try simp only [Act.put, List.getElem_toArray, List.getElem_cons_succ, List.getElem_cons_zero, List.setIfInBounds_toArray, List.set_cons_zero, List.set_cons_succ]
      refine wpAnyH_take (i := 6) (v := .tuple #[.agg (bc l), .int .i64 0]) rfl (by kernel_rfl) (by kernel_rfl) (by kernel_rfl) (fun _ _ _ h => h) (Or.inl ⟨by rfl, fun V hV => by (clear hV; go_simp)⟩) hHeld ?_
      try simp only [Act.put, List.getElem_toArray, List.getElem_cons_succ, List.getElem_cons_zero, List.setIfInBounds_toArray, List.set_cons_zero, List.set_cons_succ]
      refine wpAnyH_take (i := 7) (v := .agg (bc l)) rfl (by kernel_rfl) (by kernel_rfl) (by kernel_rfl) (fun _ _ _ h => h) (Or.inl ⟨by rfl, fun V hV => by (clear hV; go_simp)⟩) hHeld ?_
      try simp only [Act.put, List.getElem_toArray, List.getElem_cons_succ, List.getElem_cons_zero, List.setIfInBounds_toArray, List.set_cons_zero, List.set_cons_succ]
      refine wpAnyH_take (i := 8) (v := .int .i64 0) rfl (by kernel_rfl) (by kernel_rfl) (by kernel_rfl) (fun _ _ _ h => h) (Or.inl ⟨by rfl, fun V hV => by (clear hV; go_simp)⟩) hHeld ?_
      try simp only [Act.put, List.getElem_toArray, List.getElem_cons_succ, List.getElem_cons_zero, List.setIfInBounds_toArray, List.set_cons_zero, List.set_cons_succ]
      refine wpAnyH_ready (rs := [10]) (by kernel_rfl) (by simp) ?_
      refine (AllReadyH.cons rfl (fun K hK => ?_) AllReadyH.nil)
      refine step_storeP HL.out zs_length (HM.out.here (_, pgO zs) (.head _)) _ _ (by rfl) (by rfl) (by rfl) (by rfl) ?_
      intro V17 hp hb hk
      have HM := hide (HM.out.put hp hb hk)
      clear hp hb hk
      refine hK.out _ _ ((HPp.out _ HM.out.below).range) (fun hHeld => ?_)
      clear hK K
      try simp only [Act.put, List.getElem_toArray, List.getElem_cons_succ, List.getElem_cons_zero]
      refine wpAnyH_take (i := 11) (v := .int .i64 0) rfl (by kernel_rfl) (by kernel_rfl) (by kernel_rfl) (fun _ _ _ h => h) (Or.inl ⟨by rfl, fun V hV => by (clear hV; go_simp)⟩) hHeld ?_
      try simp only [Act.put, List.getElem_toArray, List.getElem_cons_succ, List.getElem_cons_zero, List.setIfInBounds_toArray, List.set_cons_zero, List.set_cons_succ]
      refine wpAnyH_done (by kernel_rfl) ?_ _
      go_wp2_with fail
      go_meet
      exact ⟨_, rfl, rfl, HM.out⟩
  case rest =>
    obtain ⟨g, rfl, rfl, hMx⟩ := hcut
    have HM := hide hMx
    clear hMx
    go_upto_if 55 with (first
      | ((with_reducible refine atL ?_); refine wp_loadPG HL.out (HM.out.here (g, pgO l) (List.mem_cons_self ..)) _ (by rfl) (by rfl) (by rfl) ?_)
      | ((with_reducible refine atL ?_); refine wp_loadPG HL.out (HPp.out _ HM.out.below) _ (by rfl) (by rfl) (by rfl) ?_)
      | (go_at_call 20; with_reducible refine Calls.mono (HIn.out _) ?_; rintro e w3 ⟨rfl, hb⟩; have HM := hide ((HM.out.later hb).new (pgO zs)); clear hb)
      | ((with_reducible refine atS ?_); refine wp_storeP HLin.out zs_length (HM.out.here (w3.heap.size, pgO zs) (List.mem_cons_self ..)) _ _ (by rfl) (by rfl) (by rfl) (by rfl) ?_; intro Xa hp hb hk; have HM := hide (HM.out.put hp hb hk); clear hp hb hk))
    go_cut [13, 14, 15, 16] from 56 to 99 (fun _ _ _ _ V => Pg w2 V [(w3.heap.size, pgO lin), (g, pgO l)])
    case first =>
      by_cases he : ein = 0
      · have HDlx := hide (HDl.out he)
        have HClx := hide (HCl.out he)
        have HRix := hide (HRi.out he)
        have HCix := hide (HCi.out he)
        have h60 := HSz.out he
        have hr0 := HRb.out
        have hw1 : IntKind.i64.wrap (rp - 1) = rp - 1 := by rw [IntKind.wrap_i64]; omega
        have hw2 : IntKind.i64.wrap (rp - 1 - (cell.size : Int)) = rp - 1 - (cell.size : Int) := by rw [IntKind.wrap_i64]; omega
        clear h60 hr0
        subst he
        go_upto_region 11 with (first
          | ((with_reducible refine atL ?_); refine wp_loadPG HLin.out (HM.out.here (w3.heap.size, pgO lin) (List.mem_cons_self ..)) _ (by rfl) (by rfl) (by rfl) ?_)
          | ((with_reducible refine atL ?_); refine wp_loadPG HLin.out (HM.out.here (w3.heap.size, pgO lin) (List.mem_cons_of_mem _ (List.mem_cons_self ..))) _ (by rfl) (by rfl) (by rfl) ?_)
          | (go_at_call 21; with_reducible refine Calls.mono (HDlx.out _) ?_; rintro e w4 ⟨rfl, hb⟩; have HM := hide ((HM.out.later hb).new (pgO zs)); clear hb)
          | ((with_reducible refine atS ?_); refine wp_storeP HL.out zs_length (HM.out.here (w4.heap.size, pgO zs) (List.mem_cons_self ..)) _ _ (by rfl) (by rfl) (by rfl) (by rfl) ?_; intro Xb hp hb hk; have HM := hide (HM.out.put hp hb hk); clear hp hb hk)
          | (go_at_call 15; with_reducible refine Calls.mono (HClx.out _) ?_; rintro e w5 ⟨rfl, hb⟩; have HM := hide (HM.out.later hb); clear hb))
        go_cut [99] from 68 to 98 (fun v99 V => v99 = .bool false ∧ Pg w2 V [(w4.heap.size, pgO l), (w3.heap.size, pgO lin), (g, pgO l)])
        case first =>
          have hnq2 : ∀ V, (binOp .neq 23 (.agg (bcl l).toArray) (.agg (bcl l).toArray)).run Try.prog V = .ok (.bool false) V := hnq
          have HMd := HM.out.later (Below.refl _ w5).drew
          refine wp_region_held_drew (S := fun V => V.rangeAt w.heap.size 0 (bcl l) ∧ V.rangeAt w3.heap.size 0 (bcl lin) ∧ V.rangeAt w4.heap.size 0 (bcl l)) (by kernel_rfl) ⟨(HPp.out _ HMd.below).range, PAt.range (HMd.here (w3.heap.size, pgO lin) (List.mem_cons_of_mem _ (List.mem_cons_self ..))), PAt.range (HMd.here (w4.heap.size, pgO l) (List.mem_cons_self ..))⟩ ?_
          generalize World.drew w5 = V0 at HMd ⊢
          intro hHeld
          have HM := hide HMd
          clear HMd
          refine wpAnyH_take (i := 0) (v := .int .i64 0) rfl (by kernel_rfl) (by kernel_rfl) (by kernel_rfl) (fun _ _ _ h => h) (Or.inl ⟨by rfl, fun V hV => by (clear hV; go_simp)⟩) hHeld ?_
          try simp only [Act.put, List.getElem_toArray, List.getElem_cons_zero, List.setIfInBounds_toArray, List.set_cons_zero, List.set_cons_succ]
          refine wpAnyH_take (i := 1) (v := .bool false) rfl (by kernel_rfl) (by kernel_rfl) (by kernel_rfl) (fun _ _ _ h => h) (Or.inl ⟨by rfl, fun V hV => by (clear hV; go_simp)⟩) hHeld ?_
          try simp only [Act.put, List.getElem_toArray, List.getElem_cons_succ, List.getElem_cons_zero, List.setIfInBounds_toArray, List.set_cons_zero, List.set_cons_succ]
          refine wpAnyH_take (i := 2) (v := .bool false) rfl (by kernel_rfl) (by kernel_rfl) (by kernel_rfl) (fun _ _ _ h => h) (Or.inl ⟨by rfl, fun V hV => by (clear hV; go_simp)⟩) hHeld ?_
          try simp only [Act.put, List.getElem_toArray, List.getElem_cons_succ, List.getElem_cons_zero, List.setIfInBounds_toArray, List.set_cons_zero, List.set_cons_succ]
          refine wpAnyH_take (i := 3) (v := .int .i64 0) rfl (by kernel_rfl) (by kernel_rfl) (by kernel_rfl) (fun _ _ _ h => h) (Or.inl ⟨by rfl, fun V hV => by (clear hV; go_simp)⟩) hHeld ?_
          try simp only [Act.put, List.getElem_toArray, List.getElem_cons_succ, List.getElem_cons_zero, List.setIfInBounds_toArray, List.set_cons_zero, List.set_cons_succ]
          refine wpAnyH_take (i := 4) (v := .bool false) rfl (by kernel_rfl) (by kernel_rfl) (by kernel_rfl) (fun _ _ _ h => h) (Or.inl ⟨by rfl, fun V hV => by (clear hV; go_simp)⟩) hHeld ?_
          try simp only [Act.put, List.getElem_toArray, List.getElem_cons_succ, List.getElem_cons_zero, List.setIfInBounds_toArray, List.set_cons_zero, List.set_cons_succ]
          refine wpAnyH_take (i := 5) (v := .bool false) rfl (by kernel_rfl) (by kernel_rfl) (by kernel_rfl) (fun _ _ _ h => h) (Or.inl ⟨by rfl, fun V hV => by (clear hV; go_simp)⟩) hHeld ?_
          try simp only [Act.put, List.getElem_toArray, List.getElem_cons_succ, List.getElem_cons_zero, List.setIfInBounds_toArray, List.set_cons_zero, List.set_cons_succ]
          refine wpAnyH_take (i := 6) (v := .bool false) rfl (by kernel_rfl) (by kernel_rfl) (by kernel_rfl) (fun _ _ _ h => h) (Or.inl ⟨by rfl, fun V hV => by (clear hV; go_simp)⟩) hHeld ?_
          try simp only [Act.put, List.getElem_toArray, List.getElem_cons_succ, List.getElem_cons_zero, List.setIfInBounds_toArray, List.set_cons_zero, List.set_cons_succ]
          refine wpAnyH_take (i := 7) (v := .agg (bcl l).toArray) rfl (by kernel_rfl) (by kernel_rfl) (by kernel_rfl) (fun _ _ _ h => h) (yieldsIf_load_mid (by rfl) _ _ rfl _ _ rfl _ _ (fun V hV => hV.2.2) hu rfl hi) hHeld ?_
          try simp only [Act.put, List.getElem_toArray, List.getElem_cons_succ, List.getElem_cons_zero, List.setIfInBounds_toArray, List.set_cons_zero, List.set_cons_succ]
          refine wpAnyH_take (i := 8) (v := .agg (bcl l).toArray) rfl (by kernel_rfl) (by kernel_rfl) (by kernel_rfl) (fun _ _ _ h => h) (yieldsIf_load_mid (by rfl) _ _ rfl _ _ rfl _ _ (fun V hV => hV.1) hu rfl hi) hHeld ?_
          try simp only [Act.put, List.getElem_toArray, List.getElem_cons_succ, List.getElem_cons_zero, List.setIfInBounds_toArray, List.set_cons_zero, List.set_cons_succ]
          refine wpAnyH_take (i := 9) (v := .bool false) rfl (by kernel_rfl) (by kernel_rfl) (by kernel_rfl) (fun _ _ _ h => h) (Or.inl ⟨by rfl, fun V hV => by (clear hV; go_simp)⟩) hHeld ?_
          try simp only [Act.put, List.getElem_toArray, List.getElem_cons_succ, List.getElem_cons_zero, List.setIfInBounds_toArray, List.set_cons_zero, List.set_cons_succ]
          refine wpAnyH_take (i := 10) (v := .bool false) rfl (by kernel_rfl) (by kernel_rfl) (by kernel_rfl) (fun _ _ _ h => h) (Or.inl ⟨by rfl, fun V hV => by (clear hV; go_simp)⟩) hHeld ?_
          try simp only [Act.put, List.getElem_toArray, List.getElem_cons_succ, List.getElem_cons_zero, List.setIfInBounds_toArray, List.set_cons_zero, List.set_cons_succ]
          refine wpAnyH_take (i := 11) (v := .bool false) rfl (by kernel_rfl) (by kernel_rfl) (by kernel_rfl) (fun _ _ _ h => h) (Or.inl ⟨by rfl, fun V hV => by (clear hV; go_simp)⟩) hHeld ?_
          try simp only [Act.put, List.getElem_toArray, List.getElem_cons_succ, List.getElem_cons_zero, List.setIfInBounds_toArray, List.set_cons_zero, List.set_cons_succ]
          refine wpAnyH_take (i := 12) (v := .string cell) rfl (by kernel_rfl) (by kernel_rfl) (by kernel_rfl) (fun _ _ _ h => h) (Or.inl ⟨by rfl, fun V hV => by (clear hV; go_simp)⟩) hHeld ?_
          try simp only [Act.put, List.getElem_toArray, List.getElem_cons_succ, List.getElem_cons_zero, List.setIfInBounds_toArray, List.set_cons_zero, List.set_cons_succ]
          refine wpAnyH_take (i := 13) (v := .string cell) rfl (by kernel_rfl) (by kernel_rfl) (by kernel_rfl) (fun _ _ _ h => h) (Or.inl ⟨by rfl, fun V hV => by (clear hV; go_simp)⟩) hHeld ?_
          try simp only [Act.put, List.getElem_toArray, List.getElem_cons_succ, List.getElem_cons_zero, List.setIfInBounds_toArray, List.set_cons_zero, List.set_cons_succ]
          refine wpAnyH_take (i := 14) (v := .bool false) rfl (by kernel_rfl) (by kernel_rfl) (by kernel_rfl) (fun _ _ _ h => h) (Or.inl ⟨by rfl, fun V hV => by (clear hV; go_simp)⟩) hHeld ?_
          try simp only [Act.put, List.getElem_toArray, List.getElem_cons_succ, List.getElem_cons_zero, List.setIfInBounds_toArray, List.set_cons_zero, List.set_cons_succ]
          refine wpAnyH_take (i := 15) (v := .bool false) rfl (by kernel_rfl) (by kernel_rfl) (by kernel_rfl) (fun _ _ _ h => h) (Or.inl ⟨by rfl, fun V hV => by (clear hV; go_simp)⟩) hHeld ?_
          try simp only [Act.put, List.getElem_toArray, List.getElem_cons_succ, List.getElem_cons_zero, List.setIfInBounds_toArray, List.set_cons_zero, List.set_cons_succ]
          refine wpAnyH_take (i := 16) (v := .bool false) rfl (by kernel_rfl) (by kernel_rfl) (by kernel_rfl) (fun _ _ _ h => h) (Or.inl ⟨by rfl, fun V hV => by (clear hV; go_simp)⟩) hHeld ?_
          try simp only [Act.put, List.getElem_toArray, List.getElem_cons_succ, List.getElem_cons_zero, List.setIfInBounds_toArray, List.set_cons_zero, List.set_cons_succ]
          refine wpAnyH_take (i := 17) (v := .agg (bcl lin).toArray) rfl (by kernel_rfl) (by kernel_rfl) (by kernel_rfl) (fun _ _ _ h => h) (yieldsIf_load_mid (by rfl) _ _ rfl _ _ rfl _ _ (fun V hV => hV.2.1) hu rfl hin) hHeld ?_
          try simp only [Act.put, List.getElem_toArray, List.getElem_cons_succ, List.getElem_cons_zero, List.setIfInBounds_toArray, List.set_cons_zero, List.set_cons_succ]
          refine wpAnyH_take (i := 19) (v := .agg (bcl l).toArray) rfl (by kernel_rfl) (by kernel_rfl) (by kernel_rfl) (fun _ _ _ h => h) (yieldsIf_load_mid (by rfl) _ _ rfl _ _ rfl _ _ (fun V hV => hV.1) hu rfl hi) hHeld ?_
          try simp only [Act.put, List.getElem_toArray, List.getElem_cons_succ, List.getElem_cons_zero, List.setIfInBounds_toArray, List.set_cons_zero, List.set_cons_succ]
          refine wpAnyH_take (i := 22) (v := .string cell) rfl (by kernel_rfl) (by kernel_rfl) (by kernel_rfl) (fun _ _ _ h => h) (Or.inl ⟨by rfl, fun V hV => by (clear hV; go_simp)⟩) hHeld ?_
          try simp only [Act.put, List.getElem_toArray, List.getElem_cons_succ, List.getElem_cons_zero, List.setIfInBounds_toArray, List.set_cons_zero, List.set_cons_succ]
          refine wpAnyH_take (i := 23) (v := .int .i64 (cell.size : Int)) rfl (by kernel_rfl) (by kernel_rfl) (by kernel_rfl) (fun _ _ _ h => h) (Or.inl ⟨by rfl, fun V hV => by (clear hV; go_simp)⟩) hHeld ?_
          try simp only [Act.put, List.getElem_toArray, List.getElem_cons_succ, List.getElem_cons_zero, List.setIfInBounds_toArray, List.set_cons_zero, List.set_cons_succ]
          refine wpAnyH_ready (rs := [18]) (by kernel_rfl) (by simp) ?_
          refine (AllReadyH.cons rfl (fun K hK => ?_) AllReadyH.nil)
          go_simp
          go_at_call 14; with_reducible refine Calls.mono (HRix.out _) ?_; rintro e V18 ⟨rfl, hb5⟩; have HM := hide (HM.out.later hb5); clear hb5
          go_wp2_with fail
          refine hK.out _ _ ⟨(HPp.out _ HM.out.below).range, PAt.range (HM.out.here (w3.heap.size, pgO lin) (List.mem_cons_of_mem _ (List.mem_cons_self ..))), PAt.range (HM.out.here (w4.heap.size, pgO l) (List.mem_cons_self ..))⟩ (fun hHeld => ?_)
          clear hK K
          try simp only [Act.put, List.getElem_toArray, List.getElem_cons_succ, List.getElem_cons_zero, List.setIfInBounds_toArray, List.set_cons_zero, List.set_cons_succ]
          refine wpAnyH_ready (rs := [20]) (by kernel_rfl) (by simp) ?_
          refine (AllReadyH.cons rfl (fun K hK => ?_) AllReadyH.nil)
          go_simp
          go_at_call 14; with_reducible refine Calls.mono (HRp.out _) ?_; rintro e V19 ⟨rfl, hb5⟩; have HM := hide (HM.out.later hb5); clear hb5
          go_wp2_with fail
          refine hK.out _ _ ⟨(HPp.out _ HM.out.below).range, PAt.range (HM.out.here (w3.heap.size, pgO lin) (List.mem_cons_of_mem _ (List.mem_cons_self ..))), PAt.range (HM.out.here (w4.heap.size, pgO l) (List.mem_cons_self ..))⟩ (fun hHeld => ?_)
          clear hK K
          try simp only [Act.put, List.getElem_toArray, List.getElem_cons_succ, List.getElem_cons_zero, List.setIfInBounds_toArray, List.set_cons_zero, List.set_cons_succ]
          refine wpAnyH_take (i := 21) (v := .int .i64 (rp - 1)) rfl (by kernel_rfl) (by kernel_rfl) (by kernel_rfl) (fun _ _ _ h => h) (Or.inl ⟨by rfl, fun V hV => by (clear hV; go_simp)⟩) hHeld ?_
          try simp only [Act.put, List.getElem_toArray, List.getElem_cons_succ, List.getElem_cons_zero, List.setIfInBounds_toArray, List.set_cons_zero, List.set_cons_succ]
          refine wpAnyH_take (i := 24) (v := .int .i64 (rp - 1 - (cell.size : Int))) rfl (by kernel_rfl) (by kernel_rfl) (by kernel_rfl) (fun _ _ _ h => h) (Or.inl ⟨by rfl, fun V hV => by (clear hV; go_simp)⟩) hHeld ?_
          try simp only [Act.put, List.getElem_toArray, List.getElem_cons_succ, List.getElem_cons_zero, List.setIfInBounds_toArray, List.set_cons_zero, List.set_cons_succ]
          refine wpAnyH_take (i := 25) (v := .bool false) rfl (by kernel_rfl) (by kernel_rfl) (by kernel_rfl) (fun _ _ _ h => h) (Or.inl ⟨by rfl, fun V hV => by (clear hV; go_simp)⟩) hHeld ?_
          try simp only [Act.put, List.getElem_toArray, List.getElem_cons_succ, List.getElem_cons_zero, List.setIfInBounds_toArray, List.set_cons_zero, List.set_cons_succ]
          refine wpAnyH_take (i := 26) (v := .bool false) rfl (by kernel_rfl) (by kernel_rfl) (by kernel_rfl) (fun _ _ _ h => h) (Or.inl ⟨by rfl, fun V hV => by (clear hV; go_simp)⟩) hHeld ?_
          try simp only [Act.put, List.getElem_toArray, List.getElem_cons_succ, List.getElem_cons_zero, List.setIfInBounds_toArray, List.set_cons_zero, List.set_cons_succ]
          refine wpAnyH_take (i := 27) (v := .bool false) rfl (by kernel_rfl) (by kernel_rfl) (by kernel_rfl) (fun _ _ _ h => h) (Or.inl ⟨by rfl, fun V hV => by (clear hV; go_simp)⟩) hHeld ?_
          try simp only [Act.put, List.getElem_toArray, List.getElem_cons_succ, List.getElem_cons_zero, List.setIfInBounds_toArray, List.set_cons_zero, List.set_cons_succ]
          refine wpAnyH_take (i := 28) (v := .agg (bcl lin).toArray) rfl (by kernel_rfl) (by kernel_rfl) (by kernel_rfl) (fun _ _ _ h => h) (yieldsIf_load_mid (by rfl) _ _ rfl _ _ rfl _ _ (fun V hV => hV.2.1) hu rfl hin) hHeld ?_
          try simp only [Act.put, List.getElem_toArray, List.getElem_cons_succ, List.getElem_cons_zero, List.setIfInBounds_toArray, List.set_cons_zero, List.set_cons_succ]
          refine wpAnyH_ready (rs := [29]) (by kernel_rfl) (by simp) ?_
          refine (AllReadyH.cons rfl (fun K hK => ?_) AllReadyH.nil)
          go_simp
          go_at_call 10; with_reducible refine Calls.mono (HCix.out _) ?_; rintro e V20 ⟨rfl, hb5⟩; have HM := hide (HM.out.later hb5); clear hb5
          go_wp2_with fail
          refine hK.out _ _ ⟨(HPp.out _ HM.out.below).range, PAt.range (HM.out.here (w3.heap.size, pgO lin) (List.mem_cons_of_mem _ (List.mem_cons_self ..))), PAt.range (HM.out.here (w4.heap.size, pgO l) (List.mem_cons_self ..))⟩ (fun hHeld => ?_)
          clear hK K
          try simp only [Act.put, List.getElem_toArray, List.getElem_cons_succ, List.getElem_cons_zero, List.setIfInBounds_toArray, List.set_cons_zero, List.set_cons_succ]
          refine wpAnyH_take (i := 30) (v := .bool false) rfl (by kernel_rfl) (by kernel_rfl) (by kernel_rfl) (fun _ _ _ h => h) (Or.inl ⟨by rfl, fun V hV => by (clear hV; go_simp)⟩) hHeld ?_
          try simp only [Act.put, List.getElem_toArray, List.getElem_cons_succ, List.getElem_cons_zero, List.setIfInBounds_toArray, List.set_cons_zero, List.set_cons_succ]
          refine wpAnyH_take (i := 31) (v := .bool false) rfl (by kernel_rfl) (by kernel_rfl) (by kernel_rfl) (fun _ _ _ h => h) (Or.inl ⟨by rfl, fun V hV => by (clear hV; go_simp)⟩) hHeld ?_
          try simp only [Act.put, List.getElem_toArray, List.getElem_cons_succ, List.getElem_cons_zero, List.setIfInBounds_toArray, List.set_cons_zero, List.set_cons_succ]
          refine wpAnyH_done (by kernel_rfl) ?_ _
          go_wp2_with fail
          go_meet
          exact ⟨rfl, HM.out⟩
        case rest =>
          obtain ⟨rfl, hMx⟩ := hcut
          go_wp2_with fail
          go_meet
          exact hMx.sub (.cons _ (.cons_cons _ (.cons_cons _ .slnil)))
      · go_wp2_with fail
        go_meet
        exact HM.out
    case rest =>
      have HM := hide hcut
      clear hcut
      go_upto_region 14 with (first
        | ((with_reducible refine atL ?_); refine wp_loadPG HL.out (HPp.out _ HM.out.below) _ (by rfl) (by rfl) (by rfl) ?_)
        | (go_at_call 26; with_reducible refine Calls.mono (HCu.out _) ?_; rintro e w6 ⟨rfl, hb⟩; have HM := hide (pg_new2 (HM.out.later hb) (pgO zs) (pgO zs)); clear hb)
        | ((with_reducible refine atS ?_); refine wp_storeP HLa.out zs_length (HM.out.here (w6.heap.size, pgO zs) (List.mem_cons_self ..)) _ _ (by rfl) (by rfl) (by rfl) (by rfl) ?_; intro Xc hp hb hk; have HM := hide (HM.out.put hp hb hk).swap; clear hp hb hk)
        | ((with_reducible refine atS ?_); refine wp_storeP HLb.out zs_length (HM.out.here (w6.heap.size + 1, pgO zs) (List.mem_cons_self ..)) _ _ (by rfl) (by rfl) (by rfl) (by rfl) ?_; intro Xd hp hb hk; have HM := hide (HM.out.put hp hb hk); clear hp hb hk))
      by_cases he : ec = 0
      · have HJox := hide (HJo.out he)
        have HCax := hide (HCa.out he)
        have HKax := hide (HKa.out he)
        have HKbx := hide (HKb.out he)
        have heq := fun V => eq_page HL.out V
        subst he
        go_wp2_with (first
          | ((with_reducible refine atL ?_); refine wp_loadPG HLa.out (HM.out.here (w6.heap.size, pgO la) (List.mem_cons_of_mem _ (List.mem_cons_self ..))) _ (by rfl) (by rfl) (by rfl) ?_)
          | ((with_reducible refine atL ?_); refine wp_loadPG HLb.out (HM.out.here (w6.heap.size + 1, pgO lb) (List.mem_cons_self ..)) _ (by rfl) (by rfl) (by rfl) ?_)
          | (go_at_call 27; with_reducible refine Calls.mono (HJox.out _) ?_; rintro e w7 ⟨rfl, hb⟩; have HM := hide ((HM.out.later hb).new (pgO zs)); clear hb)
          | ((with_reducible refine atS ?_); refine wp_storeP HL.out zs_length (HM.out.here (w7.heap.size, pgO zs) (List.mem_cons_self ..)) _ _ (by rfl) (by rfl) (by rfl) (by rfl) ?_; intro Xe hp hb hk; have HM := hide (HM.out.put hp hb hk); clear hp hb hk)
          | ((with_reducible refine atL ?_); refine wp_loadPG HL.out (HM.out.here (w7.heap.size, pgO l) (List.mem_cons_self ..)) _ (by rfl) (by rfl) (by rfl) ?_)
          | ((with_reducible refine atL ?_); refine wp_loadPG HL.out (HPp.out _ HM.out.below) _ (by rfl) (by rfl) (by rfl) ?_)
          | ((with_reducible refine atL ?_); refine wp_loadPG HLa.out (HM.out.here (w6.heap.size, pgO la) (List.mem_cons_of_mem _ (List.mem_cons_of_mem _ (List.mem_cons_self ..)))) _ (by rfl) (by rfl) (by rfl) ?_)
          | ((with_reducible refine atL ?_); refine wp_loadPG HLb.out (HM.out.here (w6.heap.size + 1, pgO lb) (List.mem_cons_of_mem _ (List.mem_cons_self ..))) _ (by rfl) (by rfl) (by rfl) ?_)
          | (go_at_call 12; with_reducible refine Calls.mono (HCax.out _) ?_; rintro e w8 ⟨rfl, hb⟩; have HM := hide (HM.out.later hb); clear hb)
          | (go_at_call 10; with_reducible refine Calls.mono (HKax.out _) ?_; rintro e w9 ⟨rfl, hb⟩; have HM := hide (HM.out.later hb); clear hb)
          | (go_at_call 10; with_reducible refine Calls.mono (HKbx.out _) ?_; rintro e w9 ⟨rfl, hb⟩; have HM := hide (HM.out.later hb); clear hb)
          | (go_at_call 17; with_reducible refine Calls.mono (awake_walk _) ?_; rintro e w10 ⟨rfl, hb⟩; have HM := hide (HM.out.later hb); clear hb))
        go_ret
        exact ⟨rfl, below_trans HW2.out HM.out.below⟩
      · have he4 := HE4.out he
        subst he4
        clear he
        go_wp2_with (first
          | (go_at_call 17; with_reducible refine Calls.mono (awake_walk _) ?_; rintro e w10 ⟨rfl, hb⟩; have HM := hide (HM.out.later hb); clear hb))
        go_ret
        exact ⟨rfl, below_trans HW2.out HM.out.below⟩
end Go.Proofs.Ythhoeabenngiiaa
