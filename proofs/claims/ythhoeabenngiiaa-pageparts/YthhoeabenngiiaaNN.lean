/- The walk of PageParts. -/
import Derived.Test.YthhoeabenngiiaaNX
namespace Go.Proofs.Ythhoeabenngiiaa
open Go.ChangeShapes Go.WideShapes Go.ChangeAt Go.RowKit
set_option linter.unusedVariables false

/-- A store into a body leaves a row of texts. -/
theorem str_far {X W : World} {p : Option Addr} {n : Nat} {S : Nat → ByteArray} {g : Nat} {is : Bool} {k Lk : Int} {sv : Value} (h : StrP X p n S) (hm : X.heap[g]? = some (bodyC is k Lk sv)) (hk : ∀ b, b ≠ g → W.heap[b]? = X.heap[b]?) : StrP W p n S := by
  intro h0
  obtain ⟨b, rfl, hs⟩ := h h0
  refine ⟨b, rfl, fun i hi => ?_⟩
  have hb : b ≠ g := fun e => by
    subst e
    have h1 := (res4 hm).1.1
    have h2 := hs 0 h0
    rw [Nat.zero_add, h1] at h2
    cases h2
  rw [World.cell?_of_block (w := X) (hk b hb)]
  exact hs i hi
theorem body_range {V : World} {g : Nat} {a b c d : Value} (h : V.heap[g]? = some (.cells #[a, b, c, d] 27)) : V.rangeAt g 0 [a, b, c, d] := by
  intro j v hv
  rw [Nat.zero_add, cell_of_row V g j _ _ _ h]
  simpa using hv
theorem two_in (w : World) (l q : List UInt8) : Pg w ((w.alloc (.cells (bc l) 23)).alloc (.cells (bc q) 23)) [(w.heap.size + 1, pgO q), (w.heap.size, pgO l)] := by
  have := (Pg.start w (pgO l)).new (pgO q)
  simpa using this
theorem Pg.nil (w : World) : Pg w w [] where
  here := fun q hq => by cases hq
  nd := by simp
  below := Below.refl _ _
  base := fun q hq => by cases hq
theorem Pg.new2 {w X : World} {L : List (Nat × Obj)} (h : Pg w X L) (o o2 : Obj) : Pg w ((X.alloc o).alloc o2) ((X.heap.size, o) :: (X.heap.size + 1, o2) :: L) := by
  have := ((h.new o).new o2).swap
  simpa using this

set_option maxHeartbeats 16000000 in
set_option maxRecDepth 10000 in
theorem parts_walk (l q la lb lj : List UInt8) (hl : l.length = 256) (hq : q.length = 256) (hla : la.length = 256) (hlb : lb.length = 256) (hlj : lj.length = 256) (i : Int) (bi ci : Bool) (bk bL bn ck cL cn : Nat) (S S2 : Nat → ByteArray) (e1 ej : Int)
    (hbn : bn ≤ 250) (hcn : cn ≤ 250)
    (hR1 : ∀ V, Calls Try.prog 8 #[.agg (bcl l).toArray] V fun e w' => ∃ p, (∃ cc, e = .returned (bodyV bi (bk : Int) (bL : Int) (.slice p bn cc)) ∧ bn ≤ cc) ∧ StrP w' p bn S ∧ Below V.heap.size V w')
    (hR2 : ∀ V, Calls Try.prog 8 #[.agg (bcl q).toArray] V fun e w' => ∃ p, (∃ cc, e = .returned (bodyV ci (ck : Int) (cL : Int) (.slice p cn cc)) ∧ cn ≤ cc) ∧ StrP w' p cn S2 ∧ Below V.heap.size V w')
    (hCu : ∀ V, Calls Try.prog 26 #[.agg (bc l), .int .i64 i] V fun e w' => e = .returned (.tuple #[.agg (bc la), .agg (bc lb), .int .i64 e1]) ∧ Below V.heap.size V w')
    (hJo : ∀ V, Calls Try.prog 27 #[.agg (bc l), .agg (bc q)] V fun e w' => e = .returned (.tuple #[.agg (bc lj), .int .i64 ej]) ∧ Below V.heap.size V w')
    (hNot : bi = false → la = zs ∧ lb = zs ∧ lj = zs ∧ e1 = 8 ∧ ej = 8)
    (hOut : bi = true → (i < 0 ∨ (bn : Int) < i) → la = zs ∧ lb = zs ∧ e1 = 4)
    (hIn : bi = true → ¬ (i < 0 ∨ (bn : Int) < i) → e1 = 0)
    (hLa : bi = true → ∀ m : Nat, i = (m : Int) → m ≤ bn → ∀ V p cc, StrO V p m S → Calls Try.prog 28 #[bodyV true (bk : Int) 0 (.slice p m cc)] V fun e w' => e = .returned (.agg (bc la)) ∧ Below V.heap.size V w')
    (hLb : bi = true → ∀ m : Nat, i = (m : Int) → m ≤ bn → ∀ V p cc, StrO V p (bn - m) (fun t => S (m + t)) → Calls Try.prog 28 #[bodyV true (bk : Int) (bL : Int) (.slice p (bn - m) cc)] V fun e w' => e = .returned (.agg (bc lb)) ∧ Below V.heap.size V w')
    (hBad : bi = true → ci = false → lj = zs ∧ ej = 8)
    (hKind : bi = true → ci = true → bk ≠ ck → lj = zs ∧ ej = 2)
    (hTold : bi = true → ci = true → bk = ck → ∀ V p cc, StrP V p (bn + cn) (twoS S bn S2) → Calls Try.prog 23 #[bodyV true (ck : Int) (cL : Int) (.slice p (bn + cn) cc)] V fun e w' => e = .returned (.tuple #[.agg (bc lj), .int .i64 ej]) ∧ Below V.heap.size V w') (w : World) :
    Calls Try.prog 6 #[.agg (bc l), .agg (bc q), .int .i64 i] w fun e w' => e = .returned (.bool true) ∧ Below w.heap.size w w' := by
  have HM := hide (two_in w l q)
  have HL := hide hl
  have HQ := hide hq
  have HLa := hide hla
  have HLb := hide hlb
  have HLj := hide hlj
  have HR1 := hide hR1
  have HR2 := hide hR2
  have HCu := hide hCu
  have HJo := hide hJo
  have HNot := hide hNot
  have HOut := hide hOut
  have HIn := hide hIn
  have HLA := hide hLa
  have HLB := hide hLb
  have HBad := hide hBad
  have HKind := hide hKind
  have HTold := hide hTold
  have HBn := hide hbn
  have HCn := hide hcn
  have hu := page_arr
  have hi : (Try.prog.info? 23).map (·.size) = some (bcl l).length := page_size hl
  have hi2 : (Try.prog.info? 23).map (·.size) = some (bcl q).length := page_size hq
  have hz := zero_page.1
  have hbu := built_page
  clear hl hq hla hlb hlj hR1 hR2 hCu hJo hNot hOut hIn hLa hLb hBad hKind hTold hbn hcn
  go_enter Try.func6, Try.ntmps6
  go_upto_region 1 with fail
  go_name_world X0 hX0
  rw [hX0] at HM
  clear hX0
  go_cut [7, 8] from 19 to 22 (fun v7 v8 V => ∃ g7 g8 p1 c1 p2 c2, v7 = .pointer (some ⟨g7, 0, none⟩) ∧ v8 = .pointer (some ⟨g8, 0, none⟩) ∧ bn ≤ c1 ∧ cn ≤ c2 ∧ StrP V p1 bn S ∧ StrP V p2 cn S2 ∧ Pg w V [(g7, bodyC bi (bk : Int) (bL : Int) (.slice p1 bn c1)), (g8, bodyC ci (ck : Int) (cL : Int) (.slice p2 cn c2)), (w.heap.size + 1, pgO q), (w.heap.size, pgO l)])
  case first =>
    have HMd := HM.out.later (Below.refl _ X0).drew
    refine wp_region_held_drew (S := fun V => V.rangeAt w.heap.size 0 (bcl l) ∧ V.rangeAt (w.heap.size + 1) 0 (bcl q)) (by kernel_rfl) ⟨PAt.range (HMd.here (w.heap.size, pgO l) (List.mem_cons_of_mem _ (List.mem_cons_self ..))), PAt.range (HMd.here (w.heap.size + 1, pgO q) (List.mem_cons_self ..))⟩ ?_
    generalize World.drew X0 = V0 at HMd ⊢
    intro hHeld
    have HM := hide HMd
    clear HMd
    refine wpAnyH_take (i := 0) (v := .agg (bcl l).toArray) rfl (by kernel_rfl) (by kernel_rfl) (by kernel_rfl) (fun _ _ _ h => h) (yieldsIf_load_mid (by rfl) _ _ rfl _ _ rfl _ _ (fun V hV => hV.1) hu rfl hi) hHeld ?_
    try simp only [Act.put, List.getElem_toArray, List.getElem_cons_zero, List.setIfInBounds_toArray, List.set_cons_zero, List.set_cons_succ]
    refine wpAnyH_take (i := 2) (v := .agg (bcl q).toArray) rfl (by kernel_rfl) (by kernel_rfl) (by kernel_rfl) (fun _ _ _ h => h) (yieldsIf_load_mid (by rfl) _ _ rfl _ _ rfl _ _ (fun V hV => hV.2) hu rfl hi2) hHeld ?_
    try simp only [Act.put, List.getElem_toArray, List.getElem_cons_succ, List.getElem_cons_zero, List.setIfInBounds_toArray, List.set_cons_zero, List.set_cons_succ]
    refine wpAnyH_ready (rs := [1, 4, 5]) (by kernel_rfl) (by simp) ?_
    refine (AllReadyH.cons rfl (fun K hK => ?_) (AllReadyH.cons rfl (fun K hK => ?_) (AllReadyH.cons rfl (fun K hK => ?_) AllReadyH.nil)))
    · go_simp
      go_at_call 8; with_reducible refine Calls.mono (HR1.out _) ?_; rintro e V1 ⟨p1, ⟨c1, rfl, hc1⟩, hs1, hb5⟩; have HM := hide (HM.out.later hb5); have HS1 := hide hs1; clear hb5 hs1
      go_wp2_with fail
      refine hK.out _ _ ⟨PAt.range (HM.out.here (w.heap.size, pgO l) (List.mem_cons_of_mem _ (List.mem_cons_self ..))), PAt.range (HM.out.here (w.heap.size + 1, pgO q) (List.mem_cons_self ..))⟩ (fun hHeld => ?_)
      clear hK K
      try simp only [Act.put, List.getElem_toArray, List.getElem_cons_succ, List.getElem_cons_zero, List.setIfInBounds_toArray, List.set_cons_zero, List.set_cons_succ]
      refine wpAnyH_ready (rs := [3, 4, 5]) (by kernel_rfl) (by simp) ?_
      refine (AllReadyH.cons rfl (fun K hK => ?_) (AllReadyH.cons rfl (fun K hK => ?_) (AllReadyH.cons rfl (fun K hK => ?_) AllReadyH.nil)))
      · go_simp
        go_at_call 8; with_reducible refine Calls.mono (HR2.out _) ?_; rintro e V2 ⟨p2, ⟨c2, rfl, hc2⟩, hs2, hb5⟩; have HM := hide (HM.out.later hb5); have HS2 := hide hs2; have HS1 := hide (HS1.out.later hb5); clear hb5 hs2
        go_wp2_with fail
        refine hK.out _ _ ⟨PAt.range (HM.out.here (w.heap.size, pgO l) (List.mem_cons_of_mem _ (List.mem_cons_self ..))), PAt.range (HM.out.here (w.heap.size + 1, pgO q) (List.mem_cons_self ..))⟩ (fun hHeld => ?_)
        clear hK K
        try simp only [Act.put, List.getElem_toArray, List.getElem_cons_succ, List.getElem_cons_zero, List.setIfInBounds_toArray, List.set_cons_zero, List.set_cons_succ]
        refine wpAnyH_ready (rs := [4, 5]) (by kernel_rfl) (by simp) ?_
        refine (AllReadyH.cons rfl (fun K hK => ?_) (AllReadyH.cons rfl (fun K hK => ?_) AllReadyH.nil))
        · have HMn := HM.out.new (.cells #[.bool false, .int .i64 0, .int .u32 0, .slice none 0 0] 27)
          have hsn1 := HS1.out.later (new_below V2 (.cells #[.bool false, .int .i64 0, .int .u32 0, .slice none 0 0] 27) rfl)
          have hsn2 := HS2.out.later (new_below V2 (.cells #[.bool false, .int .i64 0, .int .u32 0, .slice none 0 0] 27) rfl)
          go_simp
          refine hK.out _ _ ⟨PAt.range (HMn.here (w.heap.size, pgO l) (List.mem_cons_of_mem _ (List.mem_cons_of_mem _ (List.mem_cons_self ..)))), PAt.range (HMn.here (w.heap.size + 1, pgO q) (List.mem_cons_of_mem _ (List.mem_cons_self ..)))⟩ ?_
          clear hK K
          try simp only [Act.put, List.getElem_toArray, List.getElem_cons_succ, List.getElem_cons_zero, List.setIfInBounds_toArray, List.set_cons_zero, List.set_cons_succ]
          generalize World.alloc V2 (Obj.cells #[Value.bool false, Value.int IntKind.i64 0, Value.int IntKind.u32 0, Value.slice none 0 0] 27) = V3 at HMn hsn1 hsn2 ⊢
          intro hHeld
          have HM := hide HMn
          clear HMn
          have HS1 := hide hsn1
          clear hsn1
          have HS2 := hide hsn2
          clear hsn2
          refine wpAnyH_ready (rs := [5]) (by kernel_rfl) (by simp) ?_
          refine (AllReadyH.cons rfl (fun K hK => ?_) AllReadyH.nil)
          have HMn := HM.out.new (.cells #[.bool false, .int .i64 0, .int .u32 0, .slice none 0 0] 27)
          have hsn1 := HS1.out.later (new_below V3 (.cells #[.bool false, .int .i64 0, .int .u32 0, .slice none 0 0] 27) rfl)
          have hsn2 := HS2.out.later (new_below V3 (.cells #[.bool false, .int .i64 0, .int .u32 0, .slice none 0 0] 27) rfl)
          go_simp
          refine hK.out _ _ ⟨PAt.range (HMn.here (w.heap.size, pgO l) (List.mem_cons_of_mem _ (List.mem_cons_of_mem _ (List.mem_cons_of_mem _ (List.mem_cons_self ..))))), PAt.range (HMn.here (w.heap.size + 1, pgO q) (List.mem_cons_of_mem _ (List.mem_cons_of_mem _ (List.mem_cons_self ..))))⟩ ?_
          clear hK K
          try simp only [Act.put, List.getElem_toArray, List.getElem_cons_succ, List.getElem_cons_zero, List.setIfInBounds_toArray, List.set_cons_zero, List.set_cons_succ]
          generalize World.alloc V3 (Obj.cells #[Value.bool false, Value.int IntKind.i64 0, Value.int IntKind.u32 0, Value.slice none 0 0] 27) = V4 at HMn hsn1 hsn2 ⊢
          intro hHeld
          have HM := hide HMn
          clear HMn
          have HS1 := hide hsn1
          clear hsn1
          have HS2 := hide hsn2
          clear hsn2
          have HM := hide HM.out.swap
          refine wpAnyH_ready (rs := [6]) (by kernel_rfl) (by simp) ?_
          refine AllReadyH.cons rfl (fun K hK => ?_) AllReadyH.nil
          refine step_storeB (HM.out.here (_, bodyC false 0 0 (.slice none 0 0)) (List.mem_cons_self ..)) _ _ rfl rfl rfl rfl (by rfl) (by rfl) (by rfl) (by rfl) ?_
          intro W1 hp hb hk
          have HS1 := hide (str_far HS1.out (HM.out.here (_, bodyC false 0 0 (.slice none 0 0)) (List.mem_cons_self ..)) hk)
          have HS2 := hide (str_far HS2.out (HM.out.here (_, bodyC false 0 0 (.slice none 0 0)) (List.mem_cons_self ..)) hk)
          have HM := hide (HM.out.put hp hb hk).swap
          clear hp hb hk
          refine hK.out _ _ ⟨PAt.range (HM.out.here (w.heap.size, pgO l) (List.mem_cons_of_mem _ (List.mem_cons_of_mem _ (List.mem_cons_of_mem _ (List.mem_cons_self ..))))), PAt.range (HM.out.here (w.heap.size + 1, pgO q) (List.mem_cons_of_mem _ (List.mem_cons_of_mem _ (List.mem_cons_self ..))))⟩ (fun hHeld => ?_)
          clear hK K
          try simp only [Act.put, List.getElem_toArray, List.getElem_cons_succ, List.getElem_cons_zero]
          refine wpAnyH_ready (rs := [7]) (by kernel_rfl) (by simp) ?_
          refine AllReadyH.cons rfl (fun K hK => ?_) AllReadyH.nil
          refine step_storeB (HM.out.here (_, bodyC false 0 0 (.slice none 0 0)) (List.mem_cons_self ..)) _ _ rfl rfl rfl rfl (by rfl) (by rfl) (by rfl) (by rfl) ?_
          intro W2 hp hb hk
          have HS1 := hide (str_far HS1.out (HM.out.here (_, bodyC false 0 0 (.slice none 0 0)) (List.mem_cons_self ..)) hk)
          have HS2 := hide (str_far HS2.out (HM.out.here (_, bodyC false 0 0 (.slice none 0 0)) (List.mem_cons_self ..)) hk)
          have HM := hide (HM.out.put hp hb hk).swap
          clear hp hb hk
          refine hK.out _ _ ⟨PAt.range (HM.out.here (w.heap.size, pgO l) (List.mem_cons_of_mem _ (List.mem_cons_of_mem _ (List.mem_cons_of_mem _ (List.mem_cons_self ..))))), PAt.range (HM.out.here (w.heap.size + 1, pgO q) (List.mem_cons_of_mem _ (List.mem_cons_of_mem _ (List.mem_cons_self ..))))⟩ (fun hHeld => ?_)
          clear hK K
          try simp only [Act.put, List.getElem_toArray, List.getElem_cons_succ, List.getElem_cons_zero]
          refine wpAnyH_done (by kernel_rfl) ?_ _
          go_wp2_with fail
          go_meet
          exact ⟨_, _, _, _, _, _, rfl, rfl, hc1, hc2, HS1.out, HS2.out, HM.out⟩
        · have HMn := HM.out.new (.cells #[.bool false, .int .i64 0, .int .u32 0, .slice none 0 0] 27)
          have hsn1 := HS1.out.later (new_below V2 (.cells #[.bool false, .int .i64 0, .int .u32 0, .slice none 0 0] 27) rfl)
          have hsn2 := HS2.out.later (new_below V2 (.cells #[.bool false, .int .i64 0, .int .u32 0, .slice none 0 0] 27) rfl)
          go_simp
          refine hK.out _ _ ⟨PAt.range (HMn.here (w.heap.size, pgO l) (List.mem_cons_of_mem _ (List.mem_cons_of_mem _ (List.mem_cons_self ..)))), PAt.range (HMn.here (w.heap.size + 1, pgO q) (List.mem_cons_of_mem _ (List.mem_cons_self ..)))⟩ ?_
          clear hK K
          try simp only [Act.put, List.getElem_toArray, List.getElem_cons_succ, List.getElem_cons_zero, List.setIfInBounds_toArray, List.set_cons_zero, List.set_cons_succ]
          generalize World.alloc V2 (Obj.cells #[Value.bool false, Value.int IntKind.i64 0, Value.int IntKind.u32 0, Value.slice none 0 0] 27) = V5 at HMn hsn1 hsn2 ⊢
          intro hHeld
          have HM := hide HMn
          clear HMn
          have HS1 := hide hsn1
          clear hsn1
          have HS2 := hide hsn2
          clear hsn2
          refine wpAnyH_ready (rs := [4]) (by kernel_rfl) (by simp) ?_
          refine (AllReadyH.cons rfl (fun K hK => ?_) AllReadyH.nil)
          have HMn := HM.out.new (.cells #[.bool false, .int .i64 0, .int .u32 0, .slice none 0 0] 27)
          have hsn1 := HS1.out.later (new_below V5 (.cells #[.bool false, .int .i64 0, .int .u32 0, .slice none 0 0] 27) rfl)
          have hsn2 := HS2.out.later (new_below V5 (.cells #[.bool false, .int .i64 0, .int .u32 0, .slice none 0 0] 27) rfl)
          go_simp
          refine hK.out _ _ ⟨PAt.range (HMn.here (w.heap.size, pgO l) (List.mem_cons_of_mem _ (List.mem_cons_of_mem _ (List.mem_cons_of_mem _ (List.mem_cons_self ..))))), PAt.range (HMn.here (w.heap.size + 1, pgO q) (List.mem_cons_of_mem _ (List.mem_cons_of_mem _ (List.mem_cons_self ..))))⟩ ?_
          clear hK K
          try simp only [Act.put, List.getElem_toArray, List.getElem_cons_succ, List.getElem_cons_zero, List.setIfInBounds_toArray, List.set_cons_zero, List.set_cons_succ]
          generalize World.alloc V5 (Obj.cells #[Value.bool false, Value.int IntKind.i64 0, Value.int IntKind.u32 0, Value.slice none 0 0] 27) = V6 at HMn hsn1 hsn2 ⊢
          intro hHeld
          have HM := hide HMn
          clear HMn
          have HS1 := hide hsn1
          clear hsn1
          have HS2 := hide hsn2
          clear hsn2
          have HM := hide HM.out
          refine wpAnyH_ready (rs := [6]) (by kernel_rfl) (by simp) ?_
          refine AllReadyH.cons rfl (fun K hK => ?_) AllReadyH.nil
          refine step_storeB (HM.out.here (_, bodyC false 0 0 (.slice none 0 0)) (List.mem_cons_self ..)) _ _ rfl rfl rfl rfl (by rfl) (by rfl) (by rfl) (by rfl) ?_
          intro W1 hp hb hk
          have HS1 := hide (str_far HS1.out (HM.out.here (_, bodyC false 0 0 (.slice none 0 0)) (List.mem_cons_self ..)) hk)
          have HS2 := hide (str_far HS2.out (HM.out.here (_, bodyC false 0 0 (.slice none 0 0)) (List.mem_cons_self ..)) hk)
          have HM := hide (HM.out.put hp hb hk).swap
          clear hp hb hk
          refine hK.out _ _ ⟨PAt.range (HM.out.here (w.heap.size, pgO l) (List.mem_cons_of_mem _ (List.mem_cons_of_mem _ (List.mem_cons_of_mem _ (List.mem_cons_self ..))))), PAt.range (HM.out.here (w.heap.size + 1, pgO q) (List.mem_cons_of_mem _ (List.mem_cons_of_mem _ (List.mem_cons_self ..))))⟩ (fun hHeld => ?_)
          clear hK K
          try simp only [Act.put, List.getElem_toArray, List.getElem_cons_succ, List.getElem_cons_zero]
          refine wpAnyH_ready (rs := [7]) (by kernel_rfl) (by simp) ?_
          refine AllReadyH.cons rfl (fun K hK => ?_) AllReadyH.nil
          refine step_storeB (HM.out.here (_, bodyC false 0 0 (.slice none 0 0)) (List.mem_cons_self ..)) _ _ rfl rfl rfl rfl (by rfl) (by rfl) (by rfl) (by rfl) ?_
          intro W2 hp hb hk
          have HS1 := hide (str_far HS1.out (HM.out.here (_, bodyC false 0 0 (.slice none 0 0)) (List.mem_cons_self ..)) hk)
          have HS2 := hide (str_far HS2.out (HM.out.here (_, bodyC false 0 0 (.slice none 0 0)) (List.mem_cons_self ..)) hk)
          have HM := hide (HM.out.put hp hb hk).swap
          clear hp hb hk
          refine hK.out _ _ ⟨PAt.range (HM.out.here (w.heap.size, pgO l) (List.mem_cons_of_mem _ (List.mem_cons_of_mem _ (List.mem_cons_of_mem _ (List.mem_cons_self ..))))), PAt.range (HM.out.here (w.heap.size + 1, pgO q) (List.mem_cons_of_mem _ (List.mem_cons_of_mem _ (List.mem_cons_self ..))))⟩ (fun hHeld => ?_)
          clear hK K
          try simp only [Act.put, List.getElem_toArray, List.getElem_cons_succ, List.getElem_cons_zero]
          refine wpAnyH_done (by kernel_rfl) ?_ _
          go_wp2_with fail
          go_meet
          exact ⟨_, _, _, _, _, _, rfl, rfl, hc1, hc2, HS1.out, HS2.out, HM.out⟩
      · have HMn := HM.out.new (.cells #[.bool false, .int .i64 0, .int .u32 0, .slice none 0 0] 27)
        have hsn1 := HS1.out.later (new_below V1 (.cells #[.bool false, .int .i64 0, .int .u32 0, .slice none 0 0] 27) rfl)
        go_simp
        refine hK.out _ _ ⟨PAt.range (HMn.here (w.heap.size, pgO l) (List.mem_cons_of_mem _ (List.mem_cons_of_mem _ (List.mem_cons_self ..)))), PAt.range (HMn.here (w.heap.size + 1, pgO q) (List.mem_cons_of_mem _ (List.mem_cons_self ..)))⟩ ?_
        clear hK K
        try simp only [Act.put, List.getElem_toArray, List.getElem_cons_succ, List.getElem_cons_zero, List.setIfInBounds_toArray, List.set_cons_zero, List.set_cons_succ]
        generalize World.alloc V1 (Obj.cells #[Value.bool false, Value.int IntKind.i64 0, Value.int IntKind.u32 0, Value.slice none 0 0] 27) = V7 at HMn hsn1 ⊢
        intro hHeld
        have HM := hide HMn
        clear HMn
        have HS1 := hide hsn1
        clear hsn1
        refine wpAnyH_ready (rs := [3, 5]) (by kernel_rfl) (by simp) ?_
        refine (AllReadyH.cons rfl (fun K hK => ?_) (AllReadyH.cons rfl (fun K hK => ?_) AllReadyH.nil))
        · go_simp
          go_at_call 8; with_reducible refine Calls.mono (HR2.out _) ?_; rintro e V8 ⟨p2, ⟨c2, rfl, hc2⟩, hs2, hb5⟩; have HM := hide (HM.out.later hb5); have HS2 := hide hs2; have HS1 := hide (HS1.out.later hb5); clear hb5 hs2
          go_wp2_with fail
          refine hK.out _ _ ⟨PAt.range (HM.out.here (w.heap.size, pgO l) (List.mem_cons_of_mem _ (List.mem_cons_of_mem _ (List.mem_cons_self ..)))), PAt.range (HM.out.here (w.heap.size + 1, pgO q) (List.mem_cons_of_mem _ (List.mem_cons_self ..)))⟩ (fun hHeld => ?_)
          clear hK K
          try simp only [Act.put, List.getElem_toArray, List.getElem_cons_succ, List.getElem_cons_zero, List.setIfInBounds_toArray, List.set_cons_zero, List.set_cons_succ]
          refine wpAnyH_ready (rs := [5]) (by kernel_rfl) (by simp) ?_
          refine (AllReadyH.cons rfl (fun K hK => ?_) AllReadyH.nil)
          have HMn := HM.out.new (.cells #[.bool false, .int .i64 0, .int .u32 0, .slice none 0 0] 27)
          have hsn1 := HS1.out.later (new_below V8 (.cells #[.bool false, .int .i64 0, .int .u32 0, .slice none 0 0] 27) rfl)
          have hsn2 := HS2.out.later (new_below V8 (.cells #[.bool false, .int .i64 0, .int .u32 0, .slice none 0 0] 27) rfl)
          go_simp
          refine hK.out _ _ ⟨PAt.range (HMn.here (w.heap.size, pgO l) (List.mem_cons_of_mem _ (List.mem_cons_of_mem _ (List.mem_cons_of_mem _ (List.mem_cons_self ..))))), PAt.range (HMn.here (w.heap.size + 1, pgO q) (List.mem_cons_of_mem _ (List.mem_cons_of_mem _ (List.mem_cons_self ..))))⟩ ?_
          clear hK K
          try simp only [Act.put, List.getElem_toArray, List.getElem_cons_succ, List.getElem_cons_zero, List.setIfInBounds_toArray, List.set_cons_zero, List.set_cons_succ]
          generalize World.alloc V8 (Obj.cells #[Value.bool false, Value.int IntKind.i64 0, Value.int IntKind.u32 0, Value.slice none 0 0] 27) = V9 at HMn hsn1 hsn2 ⊢
          intro hHeld
          have HM := hide HMn
          clear HMn
          have HS1 := hide hsn1
          clear hsn1
          have HS2 := hide hsn2
          clear hsn2
          have HM := hide HM.out.swap
          refine wpAnyH_ready (rs := [6]) (by kernel_rfl) (by simp) ?_
          refine AllReadyH.cons rfl (fun K hK => ?_) AllReadyH.nil
          refine step_storeB (HM.out.here (_, bodyC false 0 0 (.slice none 0 0)) (List.mem_cons_self ..)) _ _ rfl rfl rfl rfl (by rfl) (by rfl) (by rfl) (by rfl) ?_
          intro W1 hp hb hk
          have HS1 := hide (str_far HS1.out (HM.out.here (_, bodyC false 0 0 (.slice none 0 0)) (List.mem_cons_self ..)) hk)
          have HS2 := hide (str_far HS2.out (HM.out.here (_, bodyC false 0 0 (.slice none 0 0)) (List.mem_cons_self ..)) hk)
          have HM := hide (HM.out.put hp hb hk).swap
          clear hp hb hk
          refine hK.out _ _ ⟨PAt.range (HM.out.here (w.heap.size, pgO l) (List.mem_cons_of_mem _ (List.mem_cons_of_mem _ (List.mem_cons_of_mem _ (List.mem_cons_self ..))))), PAt.range (HM.out.here (w.heap.size + 1, pgO q) (List.mem_cons_of_mem _ (List.mem_cons_of_mem _ (List.mem_cons_self ..))))⟩ (fun hHeld => ?_)
          clear hK K
          try simp only [Act.put, List.getElem_toArray, List.getElem_cons_succ, List.getElem_cons_zero]
          refine wpAnyH_ready (rs := [7]) (by kernel_rfl) (by simp) ?_
          refine AllReadyH.cons rfl (fun K hK => ?_) AllReadyH.nil
          refine step_storeB (HM.out.here (_, bodyC false 0 0 (.slice none 0 0)) (List.mem_cons_self ..)) _ _ rfl rfl rfl rfl (by rfl) (by rfl) (by rfl) (by rfl) ?_
          intro W2 hp hb hk
          have HS1 := hide (str_far HS1.out (HM.out.here (_, bodyC false 0 0 (.slice none 0 0)) (List.mem_cons_self ..)) hk)
          have HS2 := hide (str_far HS2.out (HM.out.here (_, bodyC false 0 0 (.slice none 0 0)) (List.mem_cons_self ..)) hk)
          have HM := hide (HM.out.put hp hb hk).swap
          clear hp hb hk
          refine hK.out _ _ ⟨PAt.range (HM.out.here (w.heap.size, pgO l) (List.mem_cons_of_mem _ (List.mem_cons_of_mem _ (List.mem_cons_of_mem _ (List.mem_cons_self ..))))), PAt.range (HM.out.here (w.heap.size + 1, pgO q) (List.mem_cons_of_mem _ (List.mem_cons_of_mem _ (List.mem_cons_self ..))))⟩ (fun hHeld => ?_)
          clear hK K
          try simp only [Act.put, List.getElem_toArray, List.getElem_cons_succ, List.getElem_cons_zero]
          refine wpAnyH_done (by kernel_rfl) ?_ _
          go_wp2_with fail
          go_meet
          exact ⟨_, _, _, _, _, _, rfl, rfl, hc1, hc2, HS1.out, HS2.out, HM.out⟩
        · have HMn := HM.out.new (.cells #[.bool false, .int .i64 0, .int .u32 0, .slice none 0 0] 27)
          have hsn1 := HS1.out.later (new_below V7 (.cells #[.bool false, .int .i64 0, .int .u32 0, .slice none 0 0] 27) rfl)
          go_simp
          refine hK.out _ _ ⟨PAt.range (HMn.here (w.heap.size, pgO l) (List.mem_cons_of_mem _ (List.mem_cons_of_mem _ (List.mem_cons_of_mem _ (List.mem_cons_self ..))))), PAt.range (HMn.here (w.heap.size + 1, pgO q) (List.mem_cons_of_mem _ (List.mem_cons_of_mem _ (List.mem_cons_self ..))))⟩ ?_
          clear hK K
          try simp only [Act.put, List.getElem_toArray, List.getElem_cons_succ, List.getElem_cons_zero, List.setIfInBounds_toArray, List.set_cons_zero, List.set_cons_succ]
          generalize World.alloc V7 (Obj.cells #[Value.bool false, Value.int IntKind.i64 0, Value.int IntKind.u32 0, Value.slice none 0 0] 27) = V10 at HMn hsn1 ⊢
          intro hHeld
          have HM := hide HMn
          clear HMn
          have HS1 := hide hsn1
          clear hsn1
          refine wpAnyH_ready (rs := [3]) (by kernel_rfl) (by simp) ?_
          refine (AllReadyH.cons rfl (fun K hK => ?_) AllReadyH.nil)
          go_simp
          go_at_call 8; with_reducible refine Calls.mono (HR2.out _) ?_; rintro e V11 ⟨p2, ⟨c2, rfl, hc2⟩, hs2, hb5⟩; have HM := hide (HM.out.later hb5); have HS2 := hide hs2; have HS1 := hide (HS1.out.later hb5); clear hb5 hs2
          go_wp2_with fail
          refine hK.out _ _ ⟨PAt.range (HM.out.here (w.heap.size, pgO l) (List.mem_cons_of_mem _ (List.mem_cons_of_mem _ (List.mem_cons_of_mem _ (List.mem_cons_self ..))))), PAt.range (HM.out.here (w.heap.size + 1, pgO q) (List.mem_cons_of_mem _ (List.mem_cons_of_mem _ (List.mem_cons_self ..))))⟩ (fun hHeld => ?_)
          clear hK K
          try simp only [Act.put, List.getElem_toArray, List.getElem_cons_succ, List.getElem_cons_zero, List.setIfInBounds_toArray, List.set_cons_zero, List.set_cons_succ]
          have HM := hide HM.out.swap
          refine wpAnyH_ready (rs := [6]) (by kernel_rfl) (by simp) ?_
          refine AllReadyH.cons rfl (fun K hK => ?_) AllReadyH.nil
          refine step_storeB (HM.out.here (_, bodyC false 0 0 (.slice none 0 0)) (List.mem_cons_self ..)) _ _ rfl rfl rfl rfl (by rfl) (by rfl) (by rfl) (by rfl) ?_
          intro W1 hp hb hk
          have HS1 := hide (str_far HS1.out (HM.out.here (_, bodyC false 0 0 (.slice none 0 0)) (List.mem_cons_self ..)) hk)
          have HS2 := hide (str_far HS2.out (HM.out.here (_, bodyC false 0 0 (.slice none 0 0)) (List.mem_cons_self ..)) hk)
          have HM := hide (HM.out.put hp hb hk).swap
          clear hp hb hk
          refine hK.out _ _ ⟨PAt.range (HM.out.here (w.heap.size, pgO l) (List.mem_cons_of_mem _ (List.mem_cons_of_mem _ (List.mem_cons_of_mem _ (List.mem_cons_self ..))))), PAt.range (HM.out.here (w.heap.size + 1, pgO q) (List.mem_cons_of_mem _ (List.mem_cons_of_mem _ (List.mem_cons_self ..))))⟩ (fun hHeld => ?_)
          clear hK K
          try simp only [Act.put, List.getElem_toArray, List.getElem_cons_succ, List.getElem_cons_zero]
          refine wpAnyH_ready (rs := [7]) (by kernel_rfl) (by simp) ?_
          refine AllReadyH.cons rfl (fun K hK => ?_) AllReadyH.nil
          refine step_storeB (HM.out.here (_, bodyC false 0 0 (.slice none 0 0)) (List.mem_cons_self ..)) _ _ rfl rfl rfl rfl (by rfl) (by rfl) (by rfl) (by rfl) ?_
          intro W2 hp hb hk
          have HS1 := hide (str_far HS1.out (HM.out.here (_, bodyC false 0 0 (.slice none 0 0)) (List.mem_cons_self ..)) hk)
          have HS2 := hide (str_far HS2.out (HM.out.here (_, bodyC false 0 0 (.slice none 0 0)) (List.mem_cons_self ..)) hk)
          have HM := hide (HM.out.put hp hb hk).swap
          clear hp hb hk
          refine hK.out _ _ ⟨PAt.range (HM.out.here (w.heap.size, pgO l) (List.mem_cons_of_mem _ (List.mem_cons_of_mem _ (List.mem_cons_of_mem _ (List.mem_cons_self ..))))), PAt.range (HM.out.here (w.heap.size + 1, pgO q) (List.mem_cons_of_mem _ (List.mem_cons_of_mem _ (List.mem_cons_self ..))))⟩ (fun hHeld => ?_)
          clear hK K
          try simp only [Act.put, List.getElem_toArray, List.getElem_cons_succ, List.getElem_cons_zero]
          refine wpAnyH_done (by kernel_rfl) ?_ _
          go_wp2_with fail
          go_meet
          exact ⟨_, _, _, _, _, _, rfl, rfl, hc1, hc2, HS1.out, HS2.out, HM.out⟩
      · have HMn := HM.out.new (.cells #[.bool false, .int .i64 0, .int .u32 0, .slice none 0 0] 27)
        have hsn1 := HS1.out.later (new_below V1 (.cells #[.bool false, .int .i64 0, .int .u32 0, .slice none 0 0] 27) rfl)
        go_simp
        refine hK.out _ _ ⟨PAt.range (HMn.here (w.heap.size, pgO l) (List.mem_cons_of_mem _ (List.mem_cons_of_mem _ (List.mem_cons_self ..)))), PAt.range (HMn.here (w.heap.size + 1, pgO q) (List.mem_cons_of_mem _ (List.mem_cons_self ..)))⟩ ?_
        clear hK K
        try simp only [Act.put, List.getElem_toArray, List.getElem_cons_succ, List.getElem_cons_zero, List.setIfInBounds_toArray, List.set_cons_zero, List.set_cons_succ]
        generalize World.alloc V1 (Obj.cells #[Value.bool false, Value.int IntKind.i64 0, Value.int IntKind.u32 0, Value.slice none 0 0] 27) = V12 at HMn hsn1 ⊢
        intro hHeld
        have HM := hide HMn
        clear HMn
        have HS1 := hide hsn1
        clear hsn1
        refine wpAnyH_ready (rs := [3, 4]) (by kernel_rfl) (by simp) ?_
        refine (AllReadyH.cons rfl (fun K hK => ?_) (AllReadyH.cons rfl (fun K hK => ?_) AllReadyH.nil))
        · go_simp
          go_at_call 8; with_reducible refine Calls.mono (HR2.out _) ?_; rintro e V13 ⟨p2, ⟨c2, rfl, hc2⟩, hs2, hb5⟩; have HM := hide (HM.out.later hb5); have HS2 := hide hs2; have HS1 := hide (HS1.out.later hb5); clear hb5 hs2
          go_wp2_with fail
          refine hK.out _ _ ⟨PAt.range (HM.out.here (w.heap.size, pgO l) (List.mem_cons_of_mem _ (List.mem_cons_of_mem _ (List.mem_cons_self ..)))), PAt.range (HM.out.here (w.heap.size + 1, pgO q) (List.mem_cons_of_mem _ (List.mem_cons_self ..)))⟩ (fun hHeld => ?_)
          clear hK K
          try simp only [Act.put, List.getElem_toArray, List.getElem_cons_succ, List.getElem_cons_zero, List.setIfInBounds_toArray, List.set_cons_zero, List.set_cons_succ]
          refine wpAnyH_ready (rs := [4]) (by kernel_rfl) (by simp) ?_
          refine (AllReadyH.cons rfl (fun K hK => ?_) AllReadyH.nil)
          have HMn := HM.out.new (.cells #[.bool false, .int .i64 0, .int .u32 0, .slice none 0 0] 27)
          have hsn1 := HS1.out.later (new_below V13 (.cells #[.bool false, .int .i64 0, .int .u32 0, .slice none 0 0] 27) rfl)
          have hsn2 := HS2.out.later (new_below V13 (.cells #[.bool false, .int .i64 0, .int .u32 0, .slice none 0 0] 27) rfl)
          go_simp
          refine hK.out _ _ ⟨PAt.range (HMn.here (w.heap.size, pgO l) (List.mem_cons_of_mem _ (List.mem_cons_of_mem _ (List.mem_cons_of_mem _ (List.mem_cons_self ..))))), PAt.range (HMn.here (w.heap.size + 1, pgO q) (List.mem_cons_of_mem _ (List.mem_cons_of_mem _ (List.mem_cons_self ..))))⟩ ?_
          clear hK K
          try simp only [Act.put, List.getElem_toArray, List.getElem_cons_succ, List.getElem_cons_zero, List.setIfInBounds_toArray, List.set_cons_zero, List.set_cons_succ]
          generalize World.alloc V13 (Obj.cells #[Value.bool false, Value.int IntKind.i64 0, Value.int IntKind.u32 0, Value.slice none 0 0] 27) = V14 at HMn hsn1 hsn2 ⊢
          intro hHeld
          have HM := hide HMn
          clear HMn
          have HS1 := hide hsn1
          clear hsn1
          have HS2 := hide hsn2
          clear hsn2
          have HM := hide HM.out
          refine wpAnyH_ready (rs := [6]) (by kernel_rfl) (by simp) ?_
          refine AllReadyH.cons rfl (fun K hK => ?_) AllReadyH.nil
          refine step_storeB (HM.out.here (_, bodyC false 0 0 (.slice none 0 0)) (List.mem_cons_self ..)) _ _ rfl rfl rfl rfl (by rfl) (by rfl) (by rfl) (by rfl) ?_
          intro W1 hp hb hk
          have HS1 := hide (str_far HS1.out (HM.out.here (_, bodyC false 0 0 (.slice none 0 0)) (List.mem_cons_self ..)) hk)
          have HS2 := hide (str_far HS2.out (HM.out.here (_, bodyC false 0 0 (.slice none 0 0)) (List.mem_cons_self ..)) hk)
          have HM := hide (HM.out.put hp hb hk).swap
          clear hp hb hk
          refine hK.out _ _ ⟨PAt.range (HM.out.here (w.heap.size, pgO l) (List.mem_cons_of_mem _ (List.mem_cons_of_mem _ (List.mem_cons_of_mem _ (List.mem_cons_self ..))))), PAt.range (HM.out.here (w.heap.size + 1, pgO q) (List.mem_cons_of_mem _ (List.mem_cons_of_mem _ (List.mem_cons_self ..))))⟩ (fun hHeld => ?_)
          clear hK K
          try simp only [Act.put, List.getElem_toArray, List.getElem_cons_succ, List.getElem_cons_zero]
          refine wpAnyH_ready (rs := [7]) (by kernel_rfl) (by simp) ?_
          refine AllReadyH.cons rfl (fun K hK => ?_) AllReadyH.nil
          refine step_storeB (HM.out.here (_, bodyC false 0 0 (.slice none 0 0)) (List.mem_cons_self ..)) _ _ rfl rfl rfl rfl (by rfl) (by rfl) (by rfl) (by rfl) ?_
          intro W2 hp hb hk
          have HS1 := hide (str_far HS1.out (HM.out.here (_, bodyC false 0 0 (.slice none 0 0)) (List.mem_cons_self ..)) hk)
          have HS2 := hide (str_far HS2.out (HM.out.here (_, bodyC false 0 0 (.slice none 0 0)) (List.mem_cons_self ..)) hk)
          have HM := hide (HM.out.put hp hb hk).swap
          clear hp hb hk
          refine hK.out _ _ ⟨PAt.range (HM.out.here (w.heap.size, pgO l) (List.mem_cons_of_mem _ (List.mem_cons_of_mem _ (List.mem_cons_of_mem _ (List.mem_cons_self ..))))), PAt.range (HM.out.here (w.heap.size + 1, pgO q) (List.mem_cons_of_mem _ (List.mem_cons_of_mem _ (List.mem_cons_self ..))))⟩ (fun hHeld => ?_)
          clear hK K
          try simp only [Act.put, List.getElem_toArray, List.getElem_cons_succ, List.getElem_cons_zero]
          refine wpAnyH_done (by kernel_rfl) ?_ _
          go_wp2_with fail
          go_meet
          exact ⟨_, _, _, _, _, _, rfl, rfl, hc1, hc2, HS1.out, HS2.out, HM.out⟩
        · have HMn := HM.out.new (.cells #[.bool false, .int .i64 0, .int .u32 0, .slice none 0 0] 27)
          have hsn1 := HS1.out.later (new_below V12 (.cells #[.bool false, .int .i64 0, .int .u32 0, .slice none 0 0] 27) rfl)
          go_simp
          refine hK.out _ _ ⟨PAt.range (HMn.here (w.heap.size, pgO l) (List.mem_cons_of_mem _ (List.mem_cons_of_mem _ (List.mem_cons_of_mem _ (List.mem_cons_self ..))))), PAt.range (HMn.here (w.heap.size + 1, pgO q) (List.mem_cons_of_mem _ (List.mem_cons_of_mem _ (List.mem_cons_self ..))))⟩ ?_
          clear hK K
          try simp only [Act.put, List.getElem_toArray, List.getElem_cons_succ, List.getElem_cons_zero, List.setIfInBounds_toArray, List.set_cons_zero, List.set_cons_succ]
          generalize World.alloc V12 (Obj.cells #[Value.bool false, Value.int IntKind.i64 0, Value.int IntKind.u32 0, Value.slice none 0 0] 27) = V15 at HMn hsn1 ⊢
          intro hHeld
          have HM := hide HMn
          clear HMn
          have HS1 := hide hsn1
          clear hsn1
          refine wpAnyH_ready (rs := [3]) (by kernel_rfl) (by simp) ?_
          refine (AllReadyH.cons rfl (fun K hK => ?_) AllReadyH.nil)
          go_simp
          go_at_call 8; with_reducible refine Calls.mono (HR2.out _) ?_; rintro e V16 ⟨p2, ⟨c2, rfl, hc2⟩, hs2, hb5⟩; have HM := hide (HM.out.later hb5); have HS2 := hide hs2; have HS1 := hide (HS1.out.later hb5); clear hb5 hs2
          go_wp2_with fail
          refine hK.out _ _ ⟨PAt.range (HM.out.here (w.heap.size, pgO l) (List.mem_cons_of_mem _ (List.mem_cons_of_mem _ (List.mem_cons_of_mem _ (List.mem_cons_self ..))))), PAt.range (HM.out.here (w.heap.size + 1, pgO q) (List.mem_cons_of_mem _ (List.mem_cons_of_mem _ (List.mem_cons_self ..))))⟩ (fun hHeld => ?_)
          clear hK K
          try simp only [Act.put, List.getElem_toArray, List.getElem_cons_succ, List.getElem_cons_zero, List.setIfInBounds_toArray, List.set_cons_zero, List.set_cons_succ]
          have HM := hide HM.out
          refine wpAnyH_ready (rs := [6]) (by kernel_rfl) (by simp) ?_
          refine AllReadyH.cons rfl (fun K hK => ?_) AllReadyH.nil
          refine step_storeB (HM.out.here (_, bodyC false 0 0 (.slice none 0 0)) (List.mem_cons_self ..)) _ _ rfl rfl rfl rfl (by rfl) (by rfl) (by rfl) (by rfl) ?_
          intro W1 hp hb hk
          have HS1 := hide (str_far HS1.out (HM.out.here (_, bodyC false 0 0 (.slice none 0 0)) (List.mem_cons_self ..)) hk)
          have HS2 := hide (str_far HS2.out (HM.out.here (_, bodyC false 0 0 (.slice none 0 0)) (List.mem_cons_self ..)) hk)
          have HM := hide (HM.out.put hp hb hk).swap
          clear hp hb hk
          refine hK.out _ _ ⟨PAt.range (HM.out.here (w.heap.size, pgO l) (List.mem_cons_of_mem _ (List.mem_cons_of_mem _ (List.mem_cons_of_mem _ (List.mem_cons_self ..))))), PAt.range (HM.out.here (w.heap.size + 1, pgO q) (List.mem_cons_of_mem _ (List.mem_cons_of_mem _ (List.mem_cons_self ..))))⟩ (fun hHeld => ?_)
          clear hK K
          try simp only [Act.put, List.getElem_toArray, List.getElem_cons_succ, List.getElem_cons_zero]
          refine wpAnyH_ready (rs := [7]) (by kernel_rfl) (by simp) ?_
          refine AllReadyH.cons rfl (fun K hK => ?_) AllReadyH.nil
          refine step_storeB (HM.out.here (_, bodyC false 0 0 (.slice none 0 0)) (List.mem_cons_self ..)) _ _ rfl rfl rfl rfl (by rfl) (by rfl) (by rfl) (by rfl) ?_
          intro W2 hp hb hk
          have HS1 := hide (str_far HS1.out (HM.out.here (_, bodyC false 0 0 (.slice none 0 0)) (List.mem_cons_self ..)) hk)
          have HS2 := hide (str_far HS2.out (HM.out.here (_, bodyC false 0 0 (.slice none 0 0)) (List.mem_cons_self ..)) hk)
          have HM := hide (HM.out.put hp hb hk).swap
          clear hp hb hk
          refine hK.out _ _ ⟨PAt.range (HM.out.here (w.heap.size, pgO l) (List.mem_cons_of_mem _ (List.mem_cons_of_mem _ (List.mem_cons_of_mem _ (List.mem_cons_self ..))))), PAt.range (HM.out.here (w.heap.size + 1, pgO q) (List.mem_cons_of_mem _ (List.mem_cons_of_mem _ (List.mem_cons_self ..))))⟩ (fun hHeld => ?_)
          clear hK K
          try simp only [Act.put, List.getElem_toArray, List.getElem_cons_succ, List.getElem_cons_zero]
          refine wpAnyH_done (by kernel_rfl) ?_ _
          go_wp2_with fail
          go_meet
          exact ⟨_, _, _, _, _, _, rfl, rfl, hc1, hc2, HS1.out, HS2.out, HM.out⟩
    · have HMn := HM.out.new (.cells #[.bool false, .int .i64 0, .int .u32 0, .slice none 0 0] 27)
      go_simp
      refine hK.out _ _ ⟨PAt.range (HMn.here (w.heap.size, pgO l) (List.mem_cons_of_mem _ (List.mem_cons_of_mem _ (List.mem_cons_self ..)))), PAt.range (HMn.here (w.heap.size + 1, pgO q) (List.mem_cons_of_mem _ (List.mem_cons_self ..)))⟩ ?_
      clear hK K
      try simp only [Act.put, List.getElem_toArray, List.getElem_cons_succ, List.getElem_cons_zero, List.setIfInBounds_toArray, List.set_cons_zero, List.set_cons_succ]
      generalize World.alloc V0 (Obj.cells #[Value.bool false, Value.int IntKind.i64 0, Value.int IntKind.u32 0, Value.slice none 0 0] 27) = V17 at HMn  ⊢
      intro hHeld
      have HM := hide HMn
      clear HMn
      refine wpAnyH_ready (rs := [1, 5]) (by kernel_rfl) (by simp) ?_
      refine (AllReadyH.cons rfl (fun K hK => ?_) (AllReadyH.cons rfl (fun K hK => ?_) AllReadyH.nil))
      · go_simp
        go_at_call 8; with_reducible refine Calls.mono (HR1.out _) ?_; rintro e V18 ⟨p1, ⟨c1, rfl, hc1⟩, hs1, hb5⟩; have HM := hide (HM.out.later hb5); have HS1 := hide hs1; clear hb5 hs1
        go_wp2_with fail
        refine hK.out _ _ ⟨PAt.range (HM.out.here (w.heap.size, pgO l) (List.mem_cons_of_mem _ (List.mem_cons_of_mem _ (List.mem_cons_self ..)))), PAt.range (HM.out.here (w.heap.size + 1, pgO q) (List.mem_cons_of_mem _ (List.mem_cons_self ..)))⟩ (fun hHeld => ?_)
        clear hK K
        try simp only [Act.put, List.getElem_toArray, List.getElem_cons_succ, List.getElem_cons_zero, List.setIfInBounds_toArray, List.set_cons_zero, List.set_cons_succ]
        refine wpAnyH_ready (rs := [3, 5]) (by kernel_rfl) (by simp) ?_
        refine (AllReadyH.cons rfl (fun K hK => ?_) (AllReadyH.cons rfl (fun K hK => ?_) AllReadyH.nil))
        · go_simp
          go_at_call 8; with_reducible refine Calls.mono (HR2.out _) ?_; rintro e V19 ⟨p2, ⟨c2, rfl, hc2⟩, hs2, hb5⟩; have HM := hide (HM.out.later hb5); have HS2 := hide hs2; have HS1 := hide (HS1.out.later hb5); clear hb5 hs2
          go_wp2_with fail
          refine hK.out _ _ ⟨PAt.range (HM.out.here (w.heap.size, pgO l) (List.mem_cons_of_mem _ (List.mem_cons_of_mem _ (List.mem_cons_self ..)))), PAt.range (HM.out.here (w.heap.size + 1, pgO q) (List.mem_cons_of_mem _ (List.mem_cons_self ..)))⟩ (fun hHeld => ?_)
          clear hK K
          try simp only [Act.put, List.getElem_toArray, List.getElem_cons_succ, List.getElem_cons_zero, List.setIfInBounds_toArray, List.set_cons_zero, List.set_cons_succ]
          refine wpAnyH_ready (rs := [5]) (by kernel_rfl) (by simp) ?_
          refine (AllReadyH.cons rfl (fun K hK => ?_) AllReadyH.nil)
          have HMn := HM.out.new (.cells #[.bool false, .int .i64 0, .int .u32 0, .slice none 0 0] 27)
          have hsn1 := HS1.out.later (new_below V19 (.cells #[.bool false, .int .i64 0, .int .u32 0, .slice none 0 0] 27) rfl)
          have hsn2 := HS2.out.later (new_below V19 (.cells #[.bool false, .int .i64 0, .int .u32 0, .slice none 0 0] 27) rfl)
          go_simp
          refine hK.out _ _ ⟨PAt.range (HMn.here (w.heap.size, pgO l) (List.mem_cons_of_mem _ (List.mem_cons_of_mem _ (List.mem_cons_of_mem _ (List.mem_cons_self ..))))), PAt.range (HMn.here (w.heap.size + 1, pgO q) (List.mem_cons_of_mem _ (List.mem_cons_of_mem _ (List.mem_cons_self ..))))⟩ ?_
          clear hK K
          try simp only [Act.put, List.getElem_toArray, List.getElem_cons_succ, List.getElem_cons_zero, List.setIfInBounds_toArray, List.set_cons_zero, List.set_cons_succ]
          generalize World.alloc V19 (Obj.cells #[Value.bool false, Value.int IntKind.i64 0, Value.int IntKind.u32 0, Value.slice none 0 0] 27) = V20 at HMn hsn1 hsn2 ⊢
          intro hHeld
          have HM := hide HMn
          clear HMn
          have HS1 := hide hsn1
          clear hsn1
          have HS2 := hide hsn2
          clear hsn2
          have HM := hide HM.out.swap
          refine wpAnyH_ready (rs := [6]) (by kernel_rfl) (by simp) ?_
          refine AllReadyH.cons rfl (fun K hK => ?_) AllReadyH.nil
          refine step_storeB (HM.out.here (_, bodyC false 0 0 (.slice none 0 0)) (List.mem_cons_self ..)) _ _ rfl rfl rfl rfl (by rfl) (by rfl) (by rfl) (by rfl) ?_
          intro W1 hp hb hk
          have HS1 := hide (str_far HS1.out (HM.out.here (_, bodyC false 0 0 (.slice none 0 0)) (List.mem_cons_self ..)) hk)
          have HS2 := hide (str_far HS2.out (HM.out.here (_, bodyC false 0 0 (.slice none 0 0)) (List.mem_cons_self ..)) hk)
          have HM := hide (HM.out.put hp hb hk).swap
          clear hp hb hk
          refine hK.out _ _ ⟨PAt.range (HM.out.here (w.heap.size, pgO l) (List.mem_cons_of_mem _ (List.mem_cons_of_mem _ (List.mem_cons_of_mem _ (List.mem_cons_self ..))))), PAt.range (HM.out.here (w.heap.size + 1, pgO q) (List.mem_cons_of_mem _ (List.mem_cons_of_mem _ (List.mem_cons_self ..))))⟩ (fun hHeld => ?_)
          clear hK K
          try simp only [Act.put, List.getElem_toArray, List.getElem_cons_succ, List.getElem_cons_zero]
          refine wpAnyH_ready (rs := [7]) (by kernel_rfl) (by simp) ?_
          refine AllReadyH.cons rfl (fun K hK => ?_) AllReadyH.nil
          refine step_storeB (HM.out.here (_, bodyC false 0 0 (.slice none 0 0)) (List.mem_cons_self ..)) _ _ rfl rfl rfl rfl (by rfl) (by rfl) (by rfl) (by rfl) ?_
          intro W2 hp hb hk
          have HS1 := hide (str_far HS1.out (HM.out.here (_, bodyC false 0 0 (.slice none 0 0)) (List.mem_cons_self ..)) hk)
          have HS2 := hide (str_far HS2.out (HM.out.here (_, bodyC false 0 0 (.slice none 0 0)) (List.mem_cons_self ..)) hk)
          have HM := hide (HM.out.put hp hb hk).swap
          clear hp hb hk
          refine hK.out _ _ ⟨PAt.range (HM.out.here (w.heap.size, pgO l) (List.mem_cons_of_mem _ (List.mem_cons_of_mem _ (List.mem_cons_of_mem _ (List.mem_cons_self ..))))), PAt.range (HM.out.here (w.heap.size + 1, pgO q) (List.mem_cons_of_mem _ (List.mem_cons_of_mem _ (List.mem_cons_self ..))))⟩ (fun hHeld => ?_)
          clear hK K
          try simp only [Act.put, List.getElem_toArray, List.getElem_cons_succ, List.getElem_cons_zero]
          refine wpAnyH_done (by kernel_rfl) ?_ _
          go_wp2_with fail
          go_meet
          exact ⟨_, _, _, _, _, _, rfl, rfl, hc1, hc2, HS1.out, HS2.out, HM.out⟩
        · have HMn := HM.out.new (.cells #[.bool false, .int .i64 0, .int .u32 0, .slice none 0 0] 27)
          have hsn1 := HS1.out.later (new_below V18 (.cells #[.bool false, .int .i64 0, .int .u32 0, .slice none 0 0] 27) rfl)
          go_simp
          refine hK.out _ _ ⟨PAt.range (HMn.here (w.heap.size, pgO l) (List.mem_cons_of_mem _ (List.mem_cons_of_mem _ (List.mem_cons_of_mem _ (List.mem_cons_self ..))))), PAt.range (HMn.here (w.heap.size + 1, pgO q) (List.mem_cons_of_mem _ (List.mem_cons_of_mem _ (List.mem_cons_self ..))))⟩ ?_
          clear hK K
          try simp only [Act.put, List.getElem_toArray, List.getElem_cons_succ, List.getElem_cons_zero, List.setIfInBounds_toArray, List.set_cons_zero, List.set_cons_succ]
          generalize World.alloc V18 (Obj.cells #[Value.bool false, Value.int IntKind.i64 0, Value.int IntKind.u32 0, Value.slice none 0 0] 27) = V21 at HMn hsn1 ⊢
          intro hHeld
          have HM := hide HMn
          clear HMn
          have HS1 := hide hsn1
          clear hsn1
          refine wpAnyH_ready (rs := [3]) (by kernel_rfl) (by simp) ?_
          refine (AllReadyH.cons rfl (fun K hK => ?_) AllReadyH.nil)
          go_simp
          go_at_call 8; with_reducible refine Calls.mono (HR2.out _) ?_; rintro e V22 ⟨p2, ⟨c2, rfl, hc2⟩, hs2, hb5⟩; have HM := hide (HM.out.later hb5); have HS2 := hide hs2; have HS1 := hide (HS1.out.later hb5); clear hb5 hs2
          go_wp2_with fail
          refine hK.out _ _ ⟨PAt.range (HM.out.here (w.heap.size, pgO l) (List.mem_cons_of_mem _ (List.mem_cons_of_mem _ (List.mem_cons_of_mem _ (List.mem_cons_self ..))))), PAt.range (HM.out.here (w.heap.size + 1, pgO q) (List.mem_cons_of_mem _ (List.mem_cons_of_mem _ (List.mem_cons_self ..))))⟩ (fun hHeld => ?_)
          clear hK K
          try simp only [Act.put, List.getElem_toArray, List.getElem_cons_succ, List.getElem_cons_zero, List.setIfInBounds_toArray, List.set_cons_zero, List.set_cons_succ]
          have HM := hide HM.out.swap
          refine wpAnyH_ready (rs := [6]) (by kernel_rfl) (by simp) ?_
          refine AllReadyH.cons rfl (fun K hK => ?_) AllReadyH.nil
          refine step_storeB (HM.out.here (_, bodyC false 0 0 (.slice none 0 0)) (List.mem_cons_self ..)) _ _ rfl rfl rfl rfl (by rfl) (by rfl) (by rfl) (by rfl) ?_
          intro W1 hp hb hk
          have HS1 := hide (str_far HS1.out (HM.out.here (_, bodyC false 0 0 (.slice none 0 0)) (List.mem_cons_self ..)) hk)
          have HS2 := hide (str_far HS2.out (HM.out.here (_, bodyC false 0 0 (.slice none 0 0)) (List.mem_cons_self ..)) hk)
          have HM := hide (HM.out.put hp hb hk).swap
          clear hp hb hk
          refine hK.out _ _ ⟨PAt.range (HM.out.here (w.heap.size, pgO l) (List.mem_cons_of_mem _ (List.mem_cons_of_mem _ (List.mem_cons_of_mem _ (List.mem_cons_self ..))))), PAt.range (HM.out.here (w.heap.size + 1, pgO q) (List.mem_cons_of_mem _ (List.mem_cons_of_mem _ (List.mem_cons_self ..))))⟩ (fun hHeld => ?_)
          clear hK K
          try simp only [Act.put, List.getElem_toArray, List.getElem_cons_succ, List.getElem_cons_zero]
          refine wpAnyH_ready (rs := [7]) (by kernel_rfl) (by simp) ?_
          refine AllReadyH.cons rfl (fun K hK => ?_) AllReadyH.nil
          refine step_storeB (HM.out.here (_, bodyC false 0 0 (.slice none 0 0)) (List.mem_cons_self ..)) _ _ rfl rfl rfl rfl (by rfl) (by rfl) (by rfl) (by rfl) ?_
          intro W2 hp hb hk
          have HS1 := hide (str_far HS1.out (HM.out.here (_, bodyC false 0 0 (.slice none 0 0)) (List.mem_cons_self ..)) hk)
          have HS2 := hide (str_far HS2.out (HM.out.here (_, bodyC false 0 0 (.slice none 0 0)) (List.mem_cons_self ..)) hk)
          have HM := hide (HM.out.put hp hb hk).swap
          clear hp hb hk
          refine hK.out _ _ ⟨PAt.range (HM.out.here (w.heap.size, pgO l) (List.mem_cons_of_mem _ (List.mem_cons_of_mem _ (List.mem_cons_of_mem _ (List.mem_cons_self ..))))), PAt.range (HM.out.here (w.heap.size + 1, pgO q) (List.mem_cons_of_mem _ (List.mem_cons_of_mem _ (List.mem_cons_self ..))))⟩ (fun hHeld => ?_)
          clear hK K
          try simp only [Act.put, List.getElem_toArray, List.getElem_cons_succ, List.getElem_cons_zero]
          refine wpAnyH_done (by kernel_rfl) ?_ _
          go_wp2_with fail
          go_meet
          exact ⟨_, _, _, _, _, _, rfl, rfl, hc1, hc2, HS1.out, HS2.out, HM.out⟩
      · have HMn := HM.out.new (.cells #[.bool false, .int .i64 0, .int .u32 0, .slice none 0 0] 27)
        go_simp
        refine hK.out _ _ ⟨PAt.range (HMn.here (w.heap.size, pgO l) (List.mem_cons_of_mem _ (List.mem_cons_of_mem _ (List.mem_cons_of_mem _ (List.mem_cons_self ..))))), PAt.range (HMn.here (w.heap.size + 1, pgO q) (List.mem_cons_of_mem _ (List.mem_cons_of_mem _ (List.mem_cons_self ..))))⟩ ?_
        clear hK K
        try simp only [Act.put, List.getElem_toArray, List.getElem_cons_succ, List.getElem_cons_zero, List.setIfInBounds_toArray, List.set_cons_zero, List.set_cons_succ]
        generalize World.alloc V17 (Obj.cells #[Value.bool false, Value.int IntKind.i64 0, Value.int IntKind.u32 0, Value.slice none 0 0] 27) = V23 at HMn  ⊢
        intro hHeld
        have HM := hide HMn
        clear HMn
        refine wpAnyH_ready (rs := [1]) (by kernel_rfl) (by simp) ?_
        refine (AllReadyH.cons rfl (fun K hK => ?_) AllReadyH.nil)
        go_simp
        go_at_call 8; with_reducible refine Calls.mono (HR1.out _) ?_; rintro e V24 ⟨p1, ⟨c1, rfl, hc1⟩, hs1, hb5⟩; have HM := hide (HM.out.later hb5); have HS1 := hide hs1; clear hb5 hs1
        go_wp2_with fail
        refine hK.out _ _ ⟨PAt.range (HM.out.here (w.heap.size, pgO l) (List.mem_cons_of_mem _ (List.mem_cons_of_mem _ (List.mem_cons_of_mem _ (List.mem_cons_self ..))))), PAt.range (HM.out.here (w.heap.size + 1, pgO q) (List.mem_cons_of_mem _ (List.mem_cons_of_mem _ (List.mem_cons_self ..))))⟩ (fun hHeld => ?_)
        clear hK K
        try simp only [Act.put, List.getElem_toArray, List.getElem_cons_succ, List.getElem_cons_zero, List.setIfInBounds_toArray, List.set_cons_zero, List.set_cons_succ]
        refine wpAnyH_ready (rs := [3]) (by kernel_rfl) (by simp) ?_
        refine (AllReadyH.cons rfl (fun K hK => ?_) AllReadyH.nil)
        go_simp
        go_at_call 8; with_reducible refine Calls.mono (HR2.out _) ?_; rintro e V25 ⟨p2, ⟨c2, rfl, hc2⟩, hs2, hb5⟩; have HM := hide (HM.out.later hb5); have HS2 := hide hs2; have HS1 := hide (HS1.out.later hb5); clear hb5 hs2
        go_wp2_with fail
        refine hK.out _ _ ⟨PAt.range (HM.out.here (w.heap.size, pgO l) (List.mem_cons_of_mem _ (List.mem_cons_of_mem _ (List.mem_cons_of_mem _ (List.mem_cons_self ..))))), PAt.range (HM.out.here (w.heap.size + 1, pgO q) (List.mem_cons_of_mem _ (List.mem_cons_of_mem _ (List.mem_cons_self ..))))⟩ (fun hHeld => ?_)
        clear hK K
        try simp only [Act.put, List.getElem_toArray, List.getElem_cons_succ, List.getElem_cons_zero, List.setIfInBounds_toArray, List.set_cons_zero, List.set_cons_succ]
        have HM := hide HM.out.swap
        refine wpAnyH_ready (rs := [6]) (by kernel_rfl) (by simp) ?_
        refine AllReadyH.cons rfl (fun K hK => ?_) AllReadyH.nil
        refine step_storeB (HM.out.here (_, bodyC false 0 0 (.slice none 0 0)) (List.mem_cons_self ..)) _ _ rfl rfl rfl rfl (by rfl) (by rfl) (by rfl) (by rfl) ?_
        intro W1 hp hb hk
        have HS1 := hide (str_far HS1.out (HM.out.here (_, bodyC false 0 0 (.slice none 0 0)) (List.mem_cons_self ..)) hk)
        have HS2 := hide (str_far HS2.out (HM.out.here (_, bodyC false 0 0 (.slice none 0 0)) (List.mem_cons_self ..)) hk)
        have HM := hide (HM.out.put hp hb hk).swap
        clear hp hb hk
        refine hK.out _ _ ⟨PAt.range (HM.out.here (w.heap.size, pgO l) (List.mem_cons_of_mem _ (List.mem_cons_of_mem _ (List.mem_cons_of_mem _ (List.mem_cons_self ..))))), PAt.range (HM.out.here (w.heap.size + 1, pgO q) (List.mem_cons_of_mem _ (List.mem_cons_of_mem _ (List.mem_cons_self ..))))⟩ (fun hHeld => ?_)
        clear hK K
        try simp only [Act.put, List.getElem_toArray, List.getElem_cons_succ, List.getElem_cons_zero]
        refine wpAnyH_ready (rs := [7]) (by kernel_rfl) (by simp) ?_
        refine AllReadyH.cons rfl (fun K hK => ?_) AllReadyH.nil
        refine step_storeB (HM.out.here (_, bodyC false 0 0 (.slice none 0 0)) (List.mem_cons_self ..)) _ _ rfl rfl rfl rfl (by rfl) (by rfl) (by rfl) (by rfl) ?_
        intro W2 hp hb hk
        have HS1 := hide (str_far HS1.out (HM.out.here (_, bodyC false 0 0 (.slice none 0 0)) (List.mem_cons_self ..)) hk)
        have HS2 := hide (str_far HS2.out (HM.out.here (_, bodyC false 0 0 (.slice none 0 0)) (List.mem_cons_self ..)) hk)
        have HM := hide (HM.out.put hp hb hk).swap
        clear hp hb hk
        refine hK.out _ _ ⟨PAt.range (HM.out.here (w.heap.size, pgO l) (List.mem_cons_of_mem _ (List.mem_cons_of_mem _ (List.mem_cons_of_mem _ (List.mem_cons_self ..))))), PAt.range (HM.out.here (w.heap.size + 1, pgO q) (List.mem_cons_of_mem _ (List.mem_cons_of_mem _ (List.mem_cons_self ..))))⟩ (fun hHeld => ?_)
        clear hK K
        try simp only [Act.put, List.getElem_toArray, List.getElem_cons_succ, List.getElem_cons_zero]
        refine wpAnyH_done (by kernel_rfl) ?_ _
        go_wp2_with fail
        go_meet
        exact ⟨_, _, _, _, _, _, rfl, rfl, hc1, hc2, HS1.out, HS2.out, HM.out⟩
    · have HMn := HM.out.new (.cells #[.bool false, .int .i64 0, .int .u32 0, .slice none 0 0] 27)
      go_simp
      refine hK.out _ _ ⟨PAt.range (HMn.here (w.heap.size, pgO l) (List.mem_cons_of_mem _ (List.mem_cons_of_mem _ (List.mem_cons_self ..)))), PAt.range (HMn.here (w.heap.size + 1, pgO q) (List.mem_cons_of_mem _ (List.mem_cons_self ..)))⟩ ?_
      clear hK K
      try simp only [Act.put, List.getElem_toArray, List.getElem_cons_succ, List.getElem_cons_zero, List.setIfInBounds_toArray, List.set_cons_zero, List.set_cons_succ]
      generalize World.alloc V0 (Obj.cells #[Value.bool false, Value.int IntKind.i64 0, Value.int IntKind.u32 0, Value.slice none 0 0] 27) = V26 at HMn  ⊢
      intro hHeld
      have HM := hide HMn
      clear HMn
      refine wpAnyH_ready (rs := [1, 4]) (by kernel_rfl) (by simp) ?_
      refine (AllReadyH.cons rfl (fun K hK => ?_) (AllReadyH.cons rfl (fun K hK => ?_) AllReadyH.nil))
      · go_simp
        go_at_call 8; with_reducible refine Calls.mono (HR1.out _) ?_; rintro e V27 ⟨p1, ⟨c1, rfl, hc1⟩, hs1, hb5⟩; have HM := hide (HM.out.later hb5); have HS1 := hide hs1; clear hb5 hs1
        go_wp2_with fail
        refine hK.out _ _ ⟨PAt.range (HM.out.here (w.heap.size, pgO l) (List.mem_cons_of_mem _ (List.mem_cons_of_mem _ (List.mem_cons_self ..)))), PAt.range (HM.out.here (w.heap.size + 1, pgO q) (List.mem_cons_of_mem _ (List.mem_cons_self ..)))⟩ (fun hHeld => ?_)
        clear hK K
        try simp only [Act.put, List.getElem_toArray, List.getElem_cons_succ, List.getElem_cons_zero, List.setIfInBounds_toArray, List.set_cons_zero, List.set_cons_succ]
        refine wpAnyH_ready (rs := [3, 4]) (by kernel_rfl) (by simp) ?_
        refine (AllReadyH.cons rfl (fun K hK => ?_) (AllReadyH.cons rfl (fun K hK => ?_) AllReadyH.nil))
        · go_simp
          go_at_call 8; with_reducible refine Calls.mono (HR2.out _) ?_; rintro e V28 ⟨p2, ⟨c2, rfl, hc2⟩, hs2, hb5⟩; have HM := hide (HM.out.later hb5); have HS2 := hide hs2; have HS1 := hide (HS1.out.later hb5); clear hb5 hs2
          go_wp2_with fail
          refine hK.out _ _ ⟨PAt.range (HM.out.here (w.heap.size, pgO l) (List.mem_cons_of_mem _ (List.mem_cons_of_mem _ (List.mem_cons_self ..)))), PAt.range (HM.out.here (w.heap.size + 1, pgO q) (List.mem_cons_of_mem _ (List.mem_cons_self ..)))⟩ (fun hHeld => ?_)
          clear hK K
          try simp only [Act.put, List.getElem_toArray, List.getElem_cons_succ, List.getElem_cons_zero, List.setIfInBounds_toArray, List.set_cons_zero, List.set_cons_succ]
          refine wpAnyH_ready (rs := [4]) (by kernel_rfl) (by simp) ?_
          refine (AllReadyH.cons rfl (fun K hK => ?_) AllReadyH.nil)
          have HMn := HM.out.new (.cells #[.bool false, .int .i64 0, .int .u32 0, .slice none 0 0] 27)
          have hsn1 := HS1.out.later (new_below V28 (.cells #[.bool false, .int .i64 0, .int .u32 0, .slice none 0 0] 27) rfl)
          have hsn2 := HS2.out.later (new_below V28 (.cells #[.bool false, .int .i64 0, .int .u32 0, .slice none 0 0] 27) rfl)
          go_simp
          refine hK.out _ _ ⟨PAt.range (HMn.here (w.heap.size, pgO l) (List.mem_cons_of_mem _ (List.mem_cons_of_mem _ (List.mem_cons_of_mem _ (List.mem_cons_self ..))))), PAt.range (HMn.here (w.heap.size + 1, pgO q) (List.mem_cons_of_mem _ (List.mem_cons_of_mem _ (List.mem_cons_self ..))))⟩ ?_
          clear hK K
          try simp only [Act.put, List.getElem_toArray, List.getElem_cons_succ, List.getElem_cons_zero, List.setIfInBounds_toArray, List.set_cons_zero, List.set_cons_succ]
          generalize World.alloc V28 (Obj.cells #[Value.bool false, Value.int IntKind.i64 0, Value.int IntKind.u32 0, Value.slice none 0 0] 27) = V29 at HMn hsn1 hsn2 ⊢
          intro hHeld
          have HM := hide HMn
          clear HMn
          have HS1 := hide hsn1
          clear hsn1
          have HS2 := hide hsn2
          clear hsn2
          have HM := hide HM.out
          refine wpAnyH_ready (rs := [6]) (by kernel_rfl) (by simp) ?_
          refine AllReadyH.cons rfl (fun K hK => ?_) AllReadyH.nil
          refine step_storeB (HM.out.here (_, bodyC false 0 0 (.slice none 0 0)) (List.mem_cons_self ..)) _ _ rfl rfl rfl rfl (by rfl) (by rfl) (by rfl) (by rfl) ?_
          intro W1 hp hb hk
          have HS1 := hide (str_far HS1.out (HM.out.here (_, bodyC false 0 0 (.slice none 0 0)) (List.mem_cons_self ..)) hk)
          have HS2 := hide (str_far HS2.out (HM.out.here (_, bodyC false 0 0 (.slice none 0 0)) (List.mem_cons_self ..)) hk)
          have HM := hide (HM.out.put hp hb hk).swap
          clear hp hb hk
          refine hK.out _ _ ⟨PAt.range (HM.out.here (w.heap.size, pgO l) (List.mem_cons_of_mem _ (List.mem_cons_of_mem _ (List.mem_cons_of_mem _ (List.mem_cons_self ..))))), PAt.range (HM.out.here (w.heap.size + 1, pgO q) (List.mem_cons_of_mem _ (List.mem_cons_of_mem _ (List.mem_cons_self ..))))⟩ (fun hHeld => ?_)
          clear hK K
          try simp only [Act.put, List.getElem_toArray, List.getElem_cons_succ, List.getElem_cons_zero]
          refine wpAnyH_ready (rs := [7]) (by kernel_rfl) (by simp) ?_
          refine AllReadyH.cons rfl (fun K hK => ?_) AllReadyH.nil
          refine step_storeB (HM.out.here (_, bodyC false 0 0 (.slice none 0 0)) (List.mem_cons_self ..)) _ _ rfl rfl rfl rfl (by rfl) (by rfl) (by rfl) (by rfl) ?_
          intro W2 hp hb hk
          have HS1 := hide (str_far HS1.out (HM.out.here (_, bodyC false 0 0 (.slice none 0 0)) (List.mem_cons_self ..)) hk)
          have HS2 := hide (str_far HS2.out (HM.out.here (_, bodyC false 0 0 (.slice none 0 0)) (List.mem_cons_self ..)) hk)
          have HM := hide (HM.out.put hp hb hk).swap
          clear hp hb hk
          refine hK.out _ _ ⟨PAt.range (HM.out.here (w.heap.size, pgO l) (List.mem_cons_of_mem _ (List.mem_cons_of_mem _ (List.mem_cons_of_mem _ (List.mem_cons_self ..))))), PAt.range (HM.out.here (w.heap.size + 1, pgO q) (List.mem_cons_of_mem _ (List.mem_cons_of_mem _ (List.mem_cons_self ..))))⟩ (fun hHeld => ?_)
          clear hK K
          try simp only [Act.put, List.getElem_toArray, List.getElem_cons_succ, List.getElem_cons_zero]
          refine wpAnyH_done (by kernel_rfl) ?_ _
          go_wp2_with fail
          go_meet
          exact ⟨_, _, _, _, _, _, rfl, rfl, hc1, hc2, HS1.out, HS2.out, HM.out⟩
        · have HMn := HM.out.new (.cells #[.bool false, .int .i64 0, .int .u32 0, .slice none 0 0] 27)
          have hsn1 := HS1.out.later (new_below V27 (.cells #[.bool false, .int .i64 0, .int .u32 0, .slice none 0 0] 27) rfl)
          go_simp
          refine hK.out _ _ ⟨PAt.range (HMn.here (w.heap.size, pgO l) (List.mem_cons_of_mem _ (List.mem_cons_of_mem _ (List.mem_cons_of_mem _ (List.mem_cons_self ..))))), PAt.range (HMn.here (w.heap.size + 1, pgO q) (List.mem_cons_of_mem _ (List.mem_cons_of_mem _ (List.mem_cons_self ..))))⟩ ?_
          clear hK K
          try simp only [Act.put, List.getElem_toArray, List.getElem_cons_succ, List.getElem_cons_zero, List.setIfInBounds_toArray, List.set_cons_zero, List.set_cons_succ]
          generalize World.alloc V27 (Obj.cells #[Value.bool false, Value.int IntKind.i64 0, Value.int IntKind.u32 0, Value.slice none 0 0] 27) = V30 at HMn hsn1 ⊢
          intro hHeld
          have HM := hide HMn
          clear HMn
          have HS1 := hide hsn1
          clear hsn1
          refine wpAnyH_ready (rs := [3]) (by kernel_rfl) (by simp) ?_
          refine (AllReadyH.cons rfl (fun K hK => ?_) AllReadyH.nil)
          go_simp
          go_at_call 8; with_reducible refine Calls.mono (HR2.out _) ?_; rintro e V31 ⟨p2, ⟨c2, rfl, hc2⟩, hs2, hb5⟩; have HM := hide (HM.out.later hb5); have HS2 := hide hs2; have HS1 := hide (HS1.out.later hb5); clear hb5 hs2
          go_wp2_with fail
          refine hK.out _ _ ⟨PAt.range (HM.out.here (w.heap.size, pgO l) (List.mem_cons_of_mem _ (List.mem_cons_of_mem _ (List.mem_cons_of_mem _ (List.mem_cons_self ..))))), PAt.range (HM.out.here (w.heap.size + 1, pgO q) (List.mem_cons_of_mem _ (List.mem_cons_of_mem _ (List.mem_cons_self ..))))⟩ (fun hHeld => ?_)
          clear hK K
          try simp only [Act.put, List.getElem_toArray, List.getElem_cons_succ, List.getElem_cons_zero, List.setIfInBounds_toArray, List.set_cons_zero, List.set_cons_succ]
          have HM := hide HM.out
          refine wpAnyH_ready (rs := [6]) (by kernel_rfl) (by simp) ?_
          refine AllReadyH.cons rfl (fun K hK => ?_) AllReadyH.nil
          refine step_storeB (HM.out.here (_, bodyC false 0 0 (.slice none 0 0)) (List.mem_cons_self ..)) _ _ rfl rfl rfl rfl (by rfl) (by rfl) (by rfl) (by rfl) ?_
          intro W1 hp hb hk
          have HS1 := hide (str_far HS1.out (HM.out.here (_, bodyC false 0 0 (.slice none 0 0)) (List.mem_cons_self ..)) hk)
          have HS2 := hide (str_far HS2.out (HM.out.here (_, bodyC false 0 0 (.slice none 0 0)) (List.mem_cons_self ..)) hk)
          have HM := hide (HM.out.put hp hb hk).swap
          clear hp hb hk
          refine hK.out _ _ ⟨PAt.range (HM.out.here (w.heap.size, pgO l) (List.mem_cons_of_mem _ (List.mem_cons_of_mem _ (List.mem_cons_of_mem _ (List.mem_cons_self ..))))), PAt.range (HM.out.here (w.heap.size + 1, pgO q) (List.mem_cons_of_mem _ (List.mem_cons_of_mem _ (List.mem_cons_self ..))))⟩ (fun hHeld => ?_)
          clear hK K
          try simp only [Act.put, List.getElem_toArray, List.getElem_cons_succ, List.getElem_cons_zero]
          refine wpAnyH_ready (rs := [7]) (by kernel_rfl) (by simp) ?_
          refine AllReadyH.cons rfl (fun K hK => ?_) AllReadyH.nil
          refine step_storeB (HM.out.here (_, bodyC false 0 0 (.slice none 0 0)) (List.mem_cons_self ..)) _ _ rfl rfl rfl rfl (by rfl) (by rfl) (by rfl) (by rfl) ?_
          intro W2 hp hb hk
          have HS1 := hide (str_far HS1.out (HM.out.here (_, bodyC false 0 0 (.slice none 0 0)) (List.mem_cons_self ..)) hk)
          have HS2 := hide (str_far HS2.out (HM.out.here (_, bodyC false 0 0 (.slice none 0 0)) (List.mem_cons_self ..)) hk)
          have HM := hide (HM.out.put hp hb hk).swap
          clear hp hb hk
          refine hK.out _ _ ⟨PAt.range (HM.out.here (w.heap.size, pgO l) (List.mem_cons_of_mem _ (List.mem_cons_of_mem _ (List.mem_cons_of_mem _ (List.mem_cons_self ..))))), PAt.range (HM.out.here (w.heap.size + 1, pgO q) (List.mem_cons_of_mem _ (List.mem_cons_of_mem _ (List.mem_cons_self ..))))⟩ (fun hHeld => ?_)
          clear hK K
          try simp only [Act.put, List.getElem_toArray, List.getElem_cons_succ, List.getElem_cons_zero]
          refine wpAnyH_done (by kernel_rfl) ?_ _
          go_wp2_with fail
          go_meet
          exact ⟨_, _, _, _, _, _, rfl, rfl, hc1, hc2, HS1.out, HS2.out, HM.out⟩
      · have HMn := HM.out.new (.cells #[.bool false, .int .i64 0, .int .u32 0, .slice none 0 0] 27)
        go_simp
        refine hK.out _ _ ⟨PAt.range (HMn.here (w.heap.size, pgO l) (List.mem_cons_of_mem _ (List.mem_cons_of_mem _ (List.mem_cons_of_mem _ (List.mem_cons_self ..))))), PAt.range (HMn.here (w.heap.size + 1, pgO q) (List.mem_cons_of_mem _ (List.mem_cons_of_mem _ (List.mem_cons_self ..))))⟩ ?_
        clear hK K
        try simp only [Act.put, List.getElem_toArray, List.getElem_cons_succ, List.getElem_cons_zero, List.setIfInBounds_toArray, List.set_cons_zero, List.set_cons_succ]
        generalize World.alloc V26 (Obj.cells #[Value.bool false, Value.int IntKind.i64 0, Value.int IntKind.u32 0, Value.slice none 0 0] 27) = V32 at HMn  ⊢
        intro hHeld
        have HM := hide HMn
        clear HMn
        refine wpAnyH_ready (rs := [1]) (by kernel_rfl) (by simp) ?_
        refine (AllReadyH.cons rfl (fun K hK => ?_) AllReadyH.nil)
        go_simp
        go_at_call 8; with_reducible refine Calls.mono (HR1.out _) ?_; rintro e V33 ⟨p1, ⟨c1, rfl, hc1⟩, hs1, hb5⟩; have HM := hide (HM.out.later hb5); have HS1 := hide hs1; clear hb5 hs1
        go_wp2_with fail
        refine hK.out _ _ ⟨PAt.range (HM.out.here (w.heap.size, pgO l) (List.mem_cons_of_mem _ (List.mem_cons_of_mem _ (List.mem_cons_of_mem _ (List.mem_cons_self ..))))), PAt.range (HM.out.here (w.heap.size + 1, pgO q) (List.mem_cons_of_mem _ (List.mem_cons_of_mem _ (List.mem_cons_self ..))))⟩ (fun hHeld => ?_)
        clear hK K
        try simp only [Act.put, List.getElem_toArray, List.getElem_cons_succ, List.getElem_cons_zero, List.setIfInBounds_toArray, List.set_cons_zero, List.set_cons_succ]
        refine wpAnyH_ready (rs := [3]) (by kernel_rfl) (by simp) ?_
        refine (AllReadyH.cons rfl (fun K hK => ?_) AllReadyH.nil)
        go_simp
        go_at_call 8; with_reducible refine Calls.mono (HR2.out _) ?_; rintro e V34 ⟨p2, ⟨c2, rfl, hc2⟩, hs2, hb5⟩; have HM := hide (HM.out.later hb5); have HS2 := hide hs2; have HS1 := hide (HS1.out.later hb5); clear hb5 hs2
        go_wp2_with fail
        refine hK.out _ _ ⟨PAt.range (HM.out.here (w.heap.size, pgO l) (List.mem_cons_of_mem _ (List.mem_cons_of_mem _ (List.mem_cons_of_mem _ (List.mem_cons_self ..))))), PAt.range (HM.out.here (w.heap.size + 1, pgO q) (List.mem_cons_of_mem _ (List.mem_cons_of_mem _ (List.mem_cons_self ..))))⟩ (fun hHeld => ?_)
        clear hK K
        try simp only [Act.put, List.getElem_toArray, List.getElem_cons_succ, List.getElem_cons_zero, List.setIfInBounds_toArray, List.set_cons_zero, List.set_cons_succ]
        have HM := hide HM.out
        refine wpAnyH_ready (rs := [6]) (by kernel_rfl) (by simp) ?_
        refine AllReadyH.cons rfl (fun K hK => ?_) AllReadyH.nil
        refine step_storeB (HM.out.here (_, bodyC false 0 0 (.slice none 0 0)) (List.mem_cons_self ..)) _ _ rfl rfl rfl rfl (by rfl) (by rfl) (by rfl) (by rfl) ?_
        intro W1 hp hb hk
        have HS1 := hide (str_far HS1.out (HM.out.here (_, bodyC false 0 0 (.slice none 0 0)) (List.mem_cons_self ..)) hk)
        have HS2 := hide (str_far HS2.out (HM.out.here (_, bodyC false 0 0 (.slice none 0 0)) (List.mem_cons_self ..)) hk)
        have HM := hide (HM.out.put hp hb hk).swap
        clear hp hb hk
        refine hK.out _ _ ⟨PAt.range (HM.out.here (w.heap.size, pgO l) (List.mem_cons_of_mem _ (List.mem_cons_of_mem _ (List.mem_cons_of_mem _ (List.mem_cons_self ..))))), PAt.range (HM.out.here (w.heap.size + 1, pgO q) (List.mem_cons_of_mem _ (List.mem_cons_of_mem _ (List.mem_cons_self ..))))⟩ (fun hHeld => ?_)
        clear hK K
        try simp only [Act.put, List.getElem_toArray, List.getElem_cons_succ, List.getElem_cons_zero]
        refine wpAnyH_ready (rs := [7]) (by kernel_rfl) (by simp) ?_
        refine AllReadyH.cons rfl (fun K hK => ?_) AllReadyH.nil
        refine step_storeB (HM.out.here (_, bodyC false 0 0 (.slice none 0 0)) (List.mem_cons_self ..)) _ _ rfl rfl rfl rfl (by rfl) (by rfl) (by rfl) (by rfl) ?_
        intro W2 hp hb hk
        have HS1 := hide (str_far HS1.out (HM.out.here (_, bodyC false 0 0 (.slice none 0 0)) (List.mem_cons_self ..)) hk)
        have HS2 := hide (str_far HS2.out (HM.out.here (_, bodyC false 0 0 (.slice none 0 0)) (List.mem_cons_self ..)) hk)
        have HM := hide (HM.out.put hp hb hk).swap
        clear hp hb hk
        refine hK.out _ _ ⟨PAt.range (HM.out.here (w.heap.size, pgO l) (List.mem_cons_of_mem _ (List.mem_cons_of_mem _ (List.mem_cons_of_mem _ (List.mem_cons_self ..))))), PAt.range (HM.out.here (w.heap.size + 1, pgO q) (List.mem_cons_of_mem _ (List.mem_cons_of_mem _ (List.mem_cons_self ..))))⟩ (fun hHeld => ?_)
        clear hK K
        try simp only [Act.put, List.getElem_toArray, List.getElem_cons_succ, List.getElem_cons_zero]
        refine wpAnyH_done (by kernel_rfl) ?_ _
        go_wp2_with fail
        go_meet
        exact ⟨_, _, _, _, _, _, rfl, rfl, hc1, hc2, HS1.out, HS2.out, HM.out⟩
  case rest =>
    obtain ⟨g7, g8, p1, c1, p2, c2, rfl, rfl, hc1, hc2, hs1, hs2, hm⟩ := hcut
    obtain ⟨X1, hX1⟩ : ∃ v, v = wc := ⟨_, rfl⟩
    subst hX1
    have HS1 := hide hs1
    have HS2 := hide hs2
    have HW := hide hm.below
    have HB7 : Hid (∀ V, Below X1.heap.size X1 V → V.heap[g7]? = some (bodyC bi (bk : Int) (bL : Int) (.slice p1 bn c1))) := fun V hb => (hm.later hb).here (g7, bodyC bi (bk : Int) (bL : Int) (.slice p1 bn c1)) (.head _)
    have HB8 : Hid (∀ V, Below X1.heap.size X1 V → V.heap[g8]? = some (bodyC ci (ck : Int) (cL : Int) (.slice p2 cn c2))) := fun V hb => (hm.later hb).here (g8, bodyC ci (ck : Int) (cL : Int) (.slice p2 cn c2)) (.tail _ (.head _))
    have HPq : Hid (∀ V, Below X1.heap.size X1 V → PAt V (w.heap.size + 1) q) := fun V hb => (hm.later hb).here (w.heap.size + 1, pgO q) (.tail _ (.tail _ (.head _)))
    have HPp : Hid (∀ V, Below X1.heap.size X1 V → PAt V w.heap.size l) := fun V hb => (hm.later hb).here (w.heap.size, pgO l) (.tail _ (.tail _ (.tail _ (.head _))))
    have HM := hide (Pg.nil X1)
    have HC1 := hide hc1
    have HC2 := hide hc2
    clear hs1 hs2 hm hc1 hc2
    go_upto_region 4 with (first
      | ((with_reducible refine atL ?_); refine wp_loadP HL.out (HPp.out _ HM.out.below) _ (by rfl) (by rfl) (by rfl) ?_)
      | ((with_reducible refine atL ?_); refine wp_loadP HQ.out (HPq.out _ HM.out.below) _ (by rfl) (by rfl) (by rfl) ?_)
      | (go_at_call 26; with_reducible refine Calls.mono (HCu.out _) ?_; rintro e w2 ⟨rfl, hb⟩; have HM := hide ((HM.out.later hb).new2 (pgO zs) (pgO zs)); clear hb)
      | ((with_reducible refine atS ?_); refine wp_storeP HLa.out zs_length (HM.out.here (w2.heap.size, pgO zs) mem0) _ _ (by rfl) (by rfl) (by rfl) (by rfl) ?_; intro Wa hp hb hk; have HM := hide (HM.out.put hp hb hk).swap; clear hp hb hk)
      | ((with_reducible refine atS ?_); refine wp_storeP HLb.out zs_length (HM.out.here (w2.heap.size + 1, pgO zs) mem0) _ _ (by rfl) (by rfl) (by rfl) (by rfl) ?_; intro Wb hp hb hk; have HM := hide (HM.out.put hp hb hk).swap; clear hp hb hk)
      | (go_at_call 27; with_reducible refine Calls.mono (HJo.out _) ?_; rintro e w3 ⟨rfl, hb⟩; have HM := hide ((HM.out.later hb).new (pgO zs)); clear hb)
      | ((with_reducible refine atS ?_); refine wp_storeP HLj.out zs_length (HM.out.here (w3.heap.size, pgO zs) mem0) _ _ (by rfl) (by rfl) (by rfl) (by rfl) ?_; intro Wc hp hb hk; have HM := hide (HM.out.put hp hb hk); clear hp hb hk))
    obtain ⟨⟨d0, d1, d2, d3⟩, _⟩ := res4 (HB7.out _ HM.out.below)
    cases bi with
    | false =>
      obtain ⟨rfl, rfl, rfl, rfl, rfl⟩ := HNot.out rfl
      have heq := fun V => eq_page zs_length V
      go_wp2_with (first
        | ((with_reducible refine atL ?_); refine wp_loadPG zs_length (HM.out.here (w2.heap.size, pgO zs) mem1) _ (by rfl) (by rfl) (by rfl) ?_)
        | ((with_reducible refine atL ?_); refine wp_loadPG zs_length (HM.out.here (w2.heap.size + 1, pgO zs) mem2) _ (by rfl) (by rfl) (by rfl) ?_)
        | ((with_reducible refine atL ?_); refine wp_loadPG zs_length (HM.out.here (w3.heap.size, pgO zs) mem0) _ (by rfl) (by rfl) (by rfl) ?_)
        | (go_at_call 17; with_reducible refine Calls.mono (awake_walk _) ?_; rintro e w5 ⟨rfl, hb⟩; have HX := hide (below_trans HW.out (below_trans HM.out.below hb)); clear hb))
      go_ret
      exact ⟨rfl, HX.out⟩
    | true =>
      go_upto_region 6 with fail
      go_cut [71] from 63 to 70 (fun v71 V => v71 = .bool (decide (i < 0 ∨ (bn : Int) < i)) ∧ Wc = V)
      case first =>
        by_cases h0 : i < 0
        · have hd := hide (show decide (i < 0 ∨ (bn : Int) < i) = true from decide_eq_true (.inl h0))
          go_wp2_with fail
          go_meet
          exact ⟨by rw [hd.out], rfl⟩
        · by_cases h1 : (bn : Int) < i
          · have hd := hide (show decide (i < 0 ∨ (bn : Int) < i) = true from decide_eq_true (.inr h1))
            have g0 : decide (i < 0) = false := decide_eq_false h0
            go_wp2_with fail
            go_meet
            exact ⟨by rw [hd.out], rfl⟩
          · have hd := hide (show decide (i < 0 ∨ (bn : Int) < i) = false from decide_eq_false fun h => h.elim h0 h1)
            have g0 : decide (i < 0) = false := decide_eq_false h0
            have g1 : decide ((bn : Int) < i) = false := decide_eq_false h1
            go_wp2_with fail
            go_meet
            exact ⟨by rw [hd.out], rfl⟩
      case' rest =>
        obtain ⟨rfl, rfl⟩ := hcut
        obtain ⟨b1, hb1⟩ : ∃ b, decide (i < 0 ∨ (bn : Int) < i) = b := ⟨_, rfl⟩
        rw [hb1]
        have HB1 := hide hb1
        clear hb1
      go_upto_if 71 with fail
      go_cut [14, 15] from 72 to 110 (fun v14 v15 V => Pg X1 V [(w3.heap.size, pgO lj)])
      case first =>
        cases b1 with
        | true =>
          obtain ⟨rfl, rfl, rfl⟩ := HOut.out rfl (of_decide_eq_true HB1.out)
          have hnq := neq_page_any zs_length
          go_wp2_with (first
            | ((with_reducible refine atL ?_); refine wp_loadPG zs_length (HM.out.here (w2.heap.size, pgO zs) mem1) _ (by rfl) (by rfl) (by rfl) ?_)
            | ((with_reducible refine atL ?_); refine wp_loadPG zs_length (HM.out.here (w2.heap.size + 1, pgO zs) mem2) _ (by rfl) (by rfl) (by rfl) ?_))
          go_meet
          exact HM.out.sub (.cons_cons _ (.cons _ (.cons _ .slnil)))
        | false =>
          have hno := of_decide_eq_false HB1.out
          obtain ⟨m, rfl⟩ : ∃ m : Nat, i = (m : Int) := ⟨i.toNat, by omega⟩
          have hmb : m ≤ bn := by omega
          have he := HIn.out rfl hno
          subst he
          have HLA := hide (HLA.out rfl m rfl hmb)
          have HLB := hide (HLB.out rfl m rfl hmb)
          obtain ⟨pa, hsa, hpa⟩ := slice_head p1 bn c1 m hmb HC1.out
          obtain ⟨pb, hsb, hpb⟩ := slice_tail p1 bn c1 m hmb HC1.out
          have HPa := hide hpa
          have HPb := hide hpb
          clear hno hpa hpb
          go_upto_region 9 with fail
          go_cut [14, 15] from 84 to 85 (fun v14 v15 V => ∃ ga gb, v14 = .pointer (some ⟨ga, 0, none⟩) ∧ v15 = .pointer (some ⟨gb, 0, none⟩) ∧ Pg X1 V [(ga, bodyC true (bk : Int) (bL : Int) (.slice p1 bn c1)), (gb, bodyC true (bk : Int) (bL : Int) (.slice p1 bn c1)), (w3.heap.size, pgO lj), (w2.heap.size, pgO la), (w2.heap.size + 1, pgO lb)])
          case first =>
            have HMd := HM.out.later (Below.refl _ Wc).drew
            refine wp_region_held_drew (S := fun V => V.rangeAt g7 0 [.bool true, .int .i64 (bk : Int), .int .u32 (bL : Int), .slice p1 bn c1]) (by kernel_rfl) (body_range (HB7.out _ HMd.below)) ?_
            generalize World.drew Wc = V0 at HMd ⊢
            intro hHeld
            have HM := hide HMd
            clear HMd
            refine wpAnyH_take (i := 0) (v := .agg ([.bool true, .int .i64 (bk : Int), .int .u32 (bL : Int), .slice p1 bn c1] : List Value).toArray) rfl (by kernel_rfl) (by kernel_rfl) (by kernel_rfl) (fun _ _ _ h => h) (yieldsIf_load_mid (by rfl) _ _ rfl _ _ rfl _ _ (fun V hV => hV) Try.underlying27 rfl body_size) hHeld ?_
            try simp only [Act.put, List.getElem_toArray, List.getElem_cons_zero, List.setIfInBounds_toArray, List.set_cons_zero, List.set_cons_succ]
            refine wpAnyH_take (i := 1) (v := .agg ([.bool true, .int .i64 (bk : Int), .int .u32 (bL : Int), .slice p1 bn c1] : List Value).toArray) rfl (by kernel_rfl) (by kernel_rfl) (by kernel_rfl) (fun _ _ _ h => h) (yieldsIf_load_mid (by rfl) _ _ rfl _ _ rfl _ _ (fun V hV => hV) Try.underlying27 rfl body_size) hHeld ?_
            try simp only [Act.put, List.getElem_toArray, List.getElem_cons_succ, List.getElem_cons_zero, List.setIfInBounds_toArray, List.set_cons_zero, List.set_cons_succ]
            refine wpAnyH_ready (rs := [2, 3]) (by kernel_rfl) (by simp) ?_
            refine (AllReadyH.cons rfl (fun K hK => ?_) (AllReadyH.cons rfl (fun K hK => ?_) AllReadyH.nil))
            · have HMn := HM.out.new (.cells #[.bool false, .int .i64 0, .int .u32 0, .slice none 0 0] 27)
              go_simp
              refine hK.out _ _ (body_range (HB7.out _ HMn.below)) ?_
              clear hK K
              try simp only [Act.put, List.getElem_toArray, List.getElem_cons_succ, List.getElem_cons_zero, List.setIfInBounds_toArray, List.set_cons_zero, List.set_cons_succ]
              generalize World.alloc V0 (Obj.cells #[Value.bool false, Value.int IntKind.i64 0, Value.int IntKind.u32 0, Value.slice none 0 0] 27) = V1 at HMn ⊢
              intro hHeld
              have HM := hide HMn
              clear HMn
              refine wpAnyH_ready (rs := [3]) (by kernel_rfl) (by simp) ?_
              refine (AllReadyH.cons rfl (fun K hK => ?_) AllReadyH.nil)
              have HMn := HM.out.new (.cells #[.bool false, .int .i64 0, .int .u32 0, .slice none 0 0] 27)
              go_simp
              refine hK.out _ _ (body_range (HB7.out _ HMn.below)) ?_
              clear hK K
              try simp only [Act.put, List.getElem_toArray, List.getElem_cons_succ, List.getElem_cons_zero, List.setIfInBounds_toArray, List.set_cons_zero, List.set_cons_succ]
              generalize World.alloc V1 (Obj.cells #[Value.bool false, Value.int IntKind.i64 0, Value.int IntKind.u32 0, Value.slice none 0 0] 27) = V2 at HMn ⊢
              intro hHeld
              have HM := hide HMn
              clear HMn
              have HM := hide HM.out.swap
              refine wpAnyH_ready (rs := [4]) (by kernel_rfl) (by simp) ?_
              refine AllReadyH.cons rfl (fun K hK => ?_) AllReadyH.nil
              refine step_storeB (HM.out.here (_, bodyC false 0 0 (.slice none 0 0)) (List.mem_cons_self ..)) _ _ rfl rfl rfl rfl (by rfl) (by rfl) (by rfl) (by rfl) ?_
              intro W1 hp hb hk
              have HM := hide (HM.out.put hp hb hk).swap
              clear hp hb hk
              refine hK.out _ _ (body_range (HB7.out _ HM.out.below)) (fun hHeld => ?_)
              clear hK K
              try simp only [Act.put, List.getElem_toArray, List.getElem_cons_succ, List.getElem_cons_zero]
              refine wpAnyH_ready (rs := [5]) (by kernel_rfl) (by simp) ?_
              refine AllReadyH.cons rfl (fun K hK => ?_) AllReadyH.nil
              refine step_storeB (HM.out.here (_, bodyC false 0 0 (.slice none 0 0)) (List.mem_cons_self ..)) _ _ rfl rfl rfl rfl (by rfl) (by rfl) (by rfl) (by rfl) ?_
              intro W2 hp hb hk
              have HM := hide (HM.out.put hp hb hk).swap
              clear hp hb hk
              refine hK.out _ _ (body_range (HB7.out _ HM.out.below)) (fun hHeld => ?_)
              clear hK K
              try simp only [Act.put, List.getElem_toArray, List.getElem_cons_succ, List.getElem_cons_zero]
              refine wpAnyH_done (by kernel_rfl) ?_ _
              go_wp2_with fail
              go_meet
              exact ⟨_, _, rfl, rfl, HM.out⟩
            · have HMn := HM.out.new (.cells #[.bool false, .int .i64 0, .int .u32 0, .slice none 0 0] 27)
              go_simp
              refine hK.out _ _ (body_range (HB7.out _ HMn.below)) ?_
              clear hK K
              try simp only [Act.put, List.getElem_toArray, List.getElem_cons_succ, List.getElem_cons_zero, List.setIfInBounds_toArray, List.set_cons_zero, List.set_cons_succ]
              generalize World.alloc V0 (Obj.cells #[Value.bool false, Value.int IntKind.i64 0, Value.int IntKind.u32 0, Value.slice none 0 0] 27) = V3 at HMn ⊢
              intro hHeld
              have HM := hide HMn
              clear HMn
              refine wpAnyH_ready (rs := [2]) (by kernel_rfl) (by simp) ?_
              refine (AllReadyH.cons rfl (fun K hK => ?_) AllReadyH.nil)
              have HMn := HM.out.new (.cells #[.bool false, .int .i64 0, .int .u32 0, .slice none 0 0] 27)
              go_simp
              refine hK.out _ _ (body_range (HB7.out _ HMn.below)) ?_
              clear hK K
              try simp only [Act.put, List.getElem_toArray, List.getElem_cons_succ, List.getElem_cons_zero, List.setIfInBounds_toArray, List.set_cons_zero, List.set_cons_succ]
              generalize World.alloc V3 (Obj.cells #[Value.bool false, Value.int IntKind.i64 0, Value.int IntKind.u32 0, Value.slice none 0 0] 27) = V4 at HMn ⊢
              intro hHeld
              have HM := hide HMn
              clear HMn
              have HM := hide HM.out
              refine wpAnyH_ready (rs := [4]) (by kernel_rfl) (by simp) ?_
              refine AllReadyH.cons rfl (fun K hK => ?_) AllReadyH.nil
              refine step_storeB (HM.out.here (_, bodyC false 0 0 (.slice none 0 0)) (List.mem_cons_self ..)) _ _ rfl rfl rfl rfl (by rfl) (by rfl) (by rfl) (by rfl) ?_
              intro W1 hp hb hk
              have HM := hide (HM.out.put hp hb hk).swap
              clear hp hb hk
              refine hK.out _ _ (body_range (HB7.out _ HM.out.below)) (fun hHeld => ?_)
              clear hK K
              try simp only [Act.put, List.getElem_toArray, List.getElem_cons_succ, List.getElem_cons_zero]
              refine wpAnyH_ready (rs := [5]) (by kernel_rfl) (by simp) ?_
              refine AllReadyH.cons rfl (fun K hK => ?_) AllReadyH.nil
              refine step_storeB (HM.out.here (_, bodyC false 0 0 (.slice none 0 0)) (List.mem_cons_self ..)) _ _ rfl rfl rfl rfl (by rfl) (by rfl) (by rfl) (by rfl) ?_
              intro W2 hp hb hk
              have HM := hide (HM.out.put hp hb hk).swap
              clear hp hb hk
              refine hK.out _ _ (body_range (HB7.out _ HM.out.below)) (fun hHeld => ?_)
              clear hK K
              try simp only [Act.put, List.getElem_toArray, List.getElem_cons_succ, List.getElem_cons_zero]
              refine wpAnyH_done (by kernel_rfl) ?_ _
              go_wp2_with fail
              go_meet
              exact ⟨_, _, rfl, rfl, HM.out⟩
          case rest =>
            obtain ⟨ga, gb, rfl, rfl, hm⟩ := hcut
            obtain ⟨X9, hX9⟩ : ∃ v, v = wc := ⟨_, rfl⟩
            subst hX9
            have HM := hide hm
            clear hm d0 d1 d2 d3
            go_upto_region 10 with fail
            obtain ⟨⟨x0, x1, x2, x3⟩, f0, f1, f2, f3⟩ := res4 (HM.out.here (ga, bodyC true (bk : Int) (bL : Int) (.slice p1 bn c1)) (.head _))
            have HM := hide (HM.out.cell 2 (.int .u32 0) : Pg X1 (X9.setCell ⟨ga, 2, none⟩ (.int .u32 0)) [(ga, bodyC true (bk : Int) 0 (.slice p1 bn c1)), (gb, bodyC true (bk : Int) (bL : Int) (.slice p1 bn c1)), (w3.heap.size, pgO lj), (w2.heap.size, pgO la), (w2.heap.size + 1, pgO lb)])
            go_upto_region 11 with fail
            go_name_world X10 hX10
            rw [hX10] at HM
            clear hX10 x0 x1 x2 x3 f0 f1 f2 f3
            obtain ⟨⟨d0, d1, d2, d3⟩, _⟩ := res4 (HB7.out _ HM.out.below)
            obtain ⟨⟨x0, x1, x2, x3⟩, f0, f1, f2, f3⟩ := res4 (HM.out.here (ga, bodyC true (bk : Int) 0 (.slice p1 bn c1)) (.head _))
            have HM := hide (HM.out.cell 3 (.slice pa m c1) : Pg X1 (X10.setCell ⟨ga, 3, none⟩ (.slice pa m c1)) [(ga, bodyC true (bk : Int) 0 (.slice pa m c1)), (gb, bodyC true (bk : Int) (bL : Int) (.slice p1 bn c1)), (w3.heap.size, pgO lj), (w2.heap.size, pgO la), (w2.heap.size + 1, pgO lb)]).swap
            go_upto_region 12 with fail
            go_name_world X11 hX11
            rw [hX11] at HM
            clear hX11 x0 x1 x2 x3 f0 f1 f2 f3 d0 d1 d2 d3
            obtain ⟨⟨d0, d1, d2, d3⟩, _⟩ := res4 (HB7.out _ HM.out.below)
            obtain ⟨⟨x0, x1, x2, x3⟩, f0, f1, f2, f3⟩ := res4 (HM.out.here (gb, bodyC true (bk : Int) (bL : Int) (.slice p1 bn c1)) (.head _))
            have HM := hide (HM.out.cell 3 (.slice pb (bn - m) (c1 - m)) : Pg X1 (X11.setCell ⟨gb, 3, none⟩ (.slice pb (bn - m) (c1 - m))) [(gb, bodyC true (bk : Int) (bL : Int) (.slice pb (bn - m) (c1 - m))), (ga, bodyC true (bk : Int) 0 (.slice pa m c1)), (w3.heap.size, pgO lj), (w2.heap.size, pgO la), (w2.heap.size + 1, pgO lb)])
            go_upto_region 13 with fail
            go_name_world X12 hX12
            rw [hX12] at HM
            clear hX12 x0 x1 x2 x3 f0 f1 f2 f3 d0 d1 d2 d3
            have HLA2 : Hid (∀ V p cc, StrO V p m S → Calls Try.prog 28 #[.agg #[.bool true, .int .i64 (bk : Int), .int .u32 0, .slice p m cc]] V fun e w' => e = .returned (.agg (bcl la).toArray) ∧ Below V.heap.size V w') := fun V p cc h => HLA.out V p cc h
            have HLB2 : Hid (∀ V p cc, StrO V p (bn - m) (fun t => S (m + t)) → Calls Try.prog 28 #[.agg #[.bool true, .int .i64 (bk : Int), .int .u32 (bL : Int), .slice p (bn - m) cc]] V fun e w' => e = .returned (.agg (bcl lb).toArray) ∧ Below V.heap.size V w') := fun V p cc h => HLB.out V p cc h
            have hnqa : ∀ V, (binOp .neq 23 (.agg (bcl la).toArray) (.agg (bcl la).toArray)).run Try.prog V = .ok (.bool false) V := neq_page_any HLa.out
            have hnqb : ∀ V, (binOp .neq 23 (.agg (bcl lb).toArray) (.agg (bcl lb).toArray)).run Try.prog V = .ok (.bool false) V := neq_page_any HLb.out
            have hia : (Try.prog.info? 23).map (·.size) = some (bcl la).length := page_size HLa.out
            have hib : (Try.prog.info? 23).map (·.size) = some (bcl lb).length := page_size HLb.out
            have HMd := HM.out.later (Below.refl _ X12).drew
            refine wp_region_held_drew (S := fun V => (V.rangeAt w2.heap.size 0 (bcl la) ∧ V.rangeAt (w2.heap.size + 1) 0 (bcl lb)) ∧ (V.rangeAt ga 0 [.bool true, .int .i64 (bk : Int), .int .u32 0, .slice pa m c1] ∧ V.rangeAt gb 0 [.bool true, .int .i64 (bk : Int), .int .u32 (bL : Int), .slice pb (bn - m) (c1 - m)])) (by kernel_rfl) ⟨⟨PAt.range (HMd.here (w2.heap.size, pgO la) (List.mem_cons_of_mem _ (List.mem_cons_of_mem _ (List.mem_cons_of_mem _ (List.mem_cons_self ..))))), PAt.range (HMd.here (w2.heap.size + 1, pgO lb) (List.mem_cons_of_mem _ (List.mem_cons_of_mem _ (List.mem_cons_of_mem _ (List.mem_cons_of_mem _ (List.mem_cons_self ..))))))⟩, ⟨body_range (HMd.here (ga, bodyC true (bk : Int) 0 (.slice pa m c1)) (List.mem_cons_of_mem _ (List.mem_cons_self ..))), body_range (HMd.here (gb, bodyC true (bk : Int) (bL : Int) (.slice pb (bn - m) (c1 - m))) (List.mem_cons_self ..))⟩⟩ ?_
            generalize World.drew X12 = V0 at HMd ⊢
            intro hHeld
            have HM := hide HMd
            clear HMd
            refine wpAnyH_take (i := 0) (v := .int .i64 0) rfl (by kernel_rfl) (by kernel_rfl) (by kernel_rfl) (fun _ _ _ h => h) (Or.inl ⟨by rfl, fun V hV => by (dsimp only at hV; go_simp)⟩) hHeld ?_
            try simp only [Act.put, List.getElem_toArray, List.getElem_cons_zero, List.setIfInBounds_toArray, List.set_cons_zero, List.set_cons_succ]
            refine wpAnyH_take (i := 1) (v := .bool false) rfl (by kernel_rfl) (by kernel_rfl) (by kernel_rfl) (fun _ _ _ h => h) (Or.inl ⟨by rfl, fun V hV => by (dsimp only at hV; go_simp)⟩) hHeld ?_
            try simp only [Act.put, List.getElem_toArray, List.getElem_cons_succ, List.getElem_cons_zero, List.setIfInBounds_toArray, List.set_cons_zero, List.set_cons_succ]
            refine wpAnyH_take (i := 2) (v := .bool false) rfl (by kernel_rfl) (by kernel_rfl) (by kernel_rfl) (fun _ _ _ h => h) (Or.inl ⟨by rfl, fun V hV => by (dsimp only at hV; go_simp)⟩) hHeld ?_
            try simp only [Act.put, List.getElem_toArray, List.getElem_cons_succ, List.getElem_cons_zero, List.setIfInBounds_toArray, List.set_cons_zero, List.set_cons_succ]
            refine wpAnyH_take (i := 3) (v := .agg (bcl la).toArray) rfl (by kernel_rfl) (by kernel_rfl) (by kernel_rfl) (fun _ _ _ h => h) (yieldsIf_load_mid (by rfl) _ _ rfl _ _ rfl _ _ (fun V hV => hV.1.1) hu rfl hia) hHeld ?_
            try simp only [Act.put, List.getElem_toArray, List.getElem_cons_succ, List.getElem_cons_zero, List.setIfInBounds_toArray, List.set_cons_zero, List.set_cons_succ]
            refine wpAnyH_take (i := 4) (v := .agg ([.bool true, .int .i64 (bk : Int), .int .u32 0, .slice pa m c1] : List Value).toArray) rfl (by kernel_rfl) (by kernel_rfl) (by kernel_rfl) (fun _ _ _ h => h) (yieldsIf_load_mid (by rfl) _ _ rfl _ _ rfl _ _ (fun V hV => hV.2.1) Try.underlying27 rfl body_size) hHeld ?_
            try simp only [Act.put, List.getElem_toArray, List.getElem_cons_succ, List.getElem_cons_zero, List.setIfInBounds_toArray, List.set_cons_zero, List.set_cons_succ]
            refine wpAnyH_ready (rs := [5]) (by kernel_rfl) (by simp) ?_
            refine AllReadyH.cons rfl (fun K hK => ?_) AllReadyH.nil
            go_simp
            go_at_call 28; with_reducible refine Calls.mono (HLA2.out _ _ _ (HPa.out _ _ (HS1.out.later HM.out.below))) ?_; rintro e V1 ⟨rfl, hb5⟩; have HM := hide (HM.out.later hb5); clear hb5
            go_wp2_with fail
            refine hK.out _ _ ⟨⟨PAt.range (HM.out.here (w2.heap.size, pgO la) (List.mem_cons_of_mem _ (List.mem_cons_of_mem _ (List.mem_cons_of_mem _ (List.mem_cons_self ..))))), PAt.range (HM.out.here (w2.heap.size + 1, pgO lb) (List.mem_cons_of_mem _ (List.mem_cons_of_mem _ (List.mem_cons_of_mem _ (List.mem_cons_of_mem _ (List.mem_cons_self ..))))))⟩, ⟨body_range (HM.out.here (ga, bodyC true (bk : Int) 0 (.slice pa m c1)) (List.mem_cons_of_mem _ (List.mem_cons_self ..))), body_range (HM.out.here (gb, bodyC true (bk : Int) (bL : Int) (.slice pb (bn - m) (c1 - m))) (List.mem_cons_self ..))⟩⟩ (fun hHeld => ?_)
            clear hK K
            try simp only [Act.put, List.getElem_toArray, List.getElem_cons_succ, List.getElem_cons_zero, List.setIfInBounds_toArray, List.set_cons_zero, List.set_cons_succ]
            refine wpAnyH_take (i := 6) (v := .bool false) rfl (by kernel_rfl) (by kernel_rfl) (by kernel_rfl) (fun _ _ _ h => h) (Or.inl ⟨by rfl, fun V hV => by (dsimp only at hV; go_simp)⟩) hHeld ?_
            try simp only [Act.put, List.getElem_toArray, List.getElem_cons_succ, List.getElem_cons_zero, List.setIfInBounds_toArray, List.set_cons_zero, List.set_cons_succ]
            refine wpAnyH_take (i := 7) (v := .bool false) rfl (by kernel_rfl) (by kernel_rfl) (by kernel_rfl) (fun _ _ _ h => h) (Or.inl ⟨by rfl, fun V hV => by (dsimp only at hV; go_simp)⟩) hHeld ?_
            try simp only [Act.put, List.getElem_toArray, List.getElem_cons_succ, List.getElem_cons_zero, List.setIfInBounds_toArray, List.set_cons_zero, List.set_cons_succ]
            refine wpAnyH_take (i := 8) (v := .bool false) rfl (by kernel_rfl) (by kernel_rfl) (by kernel_rfl) (fun _ _ _ h => h) (Or.inl ⟨by rfl, fun V hV => by (dsimp only at hV; go_simp)⟩) hHeld ?_
            try simp only [Act.put, List.getElem_toArray, List.getElem_cons_succ, List.getElem_cons_zero, List.setIfInBounds_toArray, List.set_cons_zero, List.set_cons_succ]
            refine wpAnyH_take (i := 9) (v := .agg (bcl lb).toArray) rfl (by kernel_rfl) (by kernel_rfl) (by kernel_rfl) (fun _ _ _ h => h) (yieldsIf_load_mid (by rfl) _ _ rfl _ _ rfl _ _ (fun V hV => hV.1.2) hu rfl hib) hHeld ?_
            try simp only [Act.put, List.getElem_toArray, List.getElem_cons_succ, List.getElem_cons_zero, List.setIfInBounds_toArray, List.set_cons_zero, List.set_cons_succ]
            refine wpAnyH_take (i := 10) (v := .agg ([.bool true, .int .i64 (bk : Int), .int .u32 (bL : Int), .slice pb (bn - m) (c1 - m)] : List Value).toArray) rfl (by kernel_rfl) (by kernel_rfl) (by kernel_rfl) (fun _ _ _ h => h) (yieldsIf_load_mid (by rfl) _ _ rfl _ _ rfl _ _ (fun V hV => hV.2.2) Try.underlying27 rfl body_size) hHeld ?_
            try simp only [Act.put, List.getElem_toArray, List.getElem_cons_succ, List.getElem_cons_zero, List.setIfInBounds_toArray, List.set_cons_zero, List.set_cons_succ]
            refine wpAnyH_ready (rs := [11]) (by kernel_rfl) (by simp) ?_
            refine AllReadyH.cons rfl (fun K hK => ?_) AllReadyH.nil
            go_simp
            go_at_call 28; with_reducible refine Calls.mono (HLB2.out _ _ _ (HPb.out _ _ (HS1.out.later HM.out.below))) ?_; rintro e V2 ⟨rfl, hb5⟩; have HM := hide (HM.out.later hb5); clear hb5
            go_wp2_with fail
            refine hK.out _ _ ⟨⟨PAt.range (HM.out.here (w2.heap.size, pgO la) (List.mem_cons_of_mem _ (List.mem_cons_of_mem _ (List.mem_cons_of_mem _ (List.mem_cons_self ..))))), PAt.range (HM.out.here (w2.heap.size + 1, pgO lb) (List.mem_cons_of_mem _ (List.mem_cons_of_mem _ (List.mem_cons_of_mem _ (List.mem_cons_of_mem _ (List.mem_cons_self ..))))))⟩, ⟨body_range (HM.out.here (ga, bodyC true (bk : Int) 0 (.slice pa m c1)) (List.mem_cons_of_mem _ (List.mem_cons_self ..))), body_range (HM.out.here (gb, bodyC true (bk : Int) (bL : Int) (.slice pb (bn - m) (c1 - m))) (List.mem_cons_self ..))⟩⟩ (fun hHeld => ?_)
            clear hK K
            try simp only [Act.put, List.getElem_toArray, List.getElem_cons_succ, List.getElem_cons_zero, List.setIfInBounds_toArray, List.set_cons_zero, List.set_cons_succ]
            refine wpAnyH_take (i := 12) (v := .bool false) rfl (by kernel_rfl) (by kernel_rfl) (by kernel_rfl) (fun _ _ _ h => h) (Or.inl ⟨by rfl, fun V hV => by (dsimp only at hV; go_simp)⟩) hHeld ?_
            try simp only [Act.put, List.getElem_toArray, List.getElem_cons_succ, List.getElem_cons_zero, List.setIfInBounds_toArray, List.set_cons_zero, List.set_cons_succ]
            refine wpAnyH_take (i := 13) (v := .bool false) rfl (by kernel_rfl) (by kernel_rfl) (by kernel_rfl) (fun _ _ _ h => h) (Or.inl ⟨by rfl, fun V hV => by (dsimp only at hV; go_simp)⟩) hHeld ?_
            try simp only [Act.put, List.getElem_toArray, List.getElem_cons_succ, List.getElem_cons_zero, List.setIfInBounds_toArray, List.set_cons_zero, List.set_cons_succ]
            refine wpAnyH_done (by kernel_rfl) ?_ _
            go_wp2_with fail
            go_meet
            exact HM.out.sub (.cons _ (.cons _ (.cons_cons _ (.cons _ (.cons _ .slnil)))))
      case rest =>
        obtain ⟨X13, hX13⟩ : ∃ v, v = wc := ⟨_, rfl⟩
        subst hX13
        have HM := hide (hcut.new (pgO zs))
        clear hcut d0 d1 d2 d3
        go_upto_region 16 with (first
          | ((with_reducible refine atS ?_); refine wp_storeP zs_length zs_length (HM.out.here (X13.heap.size, pgO zs) mem0) _ _ (by rfl) (by rfl) (by rfl) (by rfl) ?_; intro X15 hp hb hk; have HM := hide (HM.out.put hp hb hk); clear hp hb hk))
        obtain ⟨⟨d0, d1, d2, d3⟩, _⟩ := res4 (HB7.out _ HM.out.below)
        obtain ⟨⟨c0', c1', c2', c3'⟩, _⟩ := res4 (HB8.out _ HM.out.below)
        cases ci with
        | false =>
          obtain ⟨rfl, rfl⟩ := HBad.out rfl rfl
          have heq := fun V => eq_page zs_length V
          go_wp2_with (first
            | ((with_reducible refine atL ?_); refine wp_loadP zs_length (HM.out.here (w3.heap.size, pgO zs) mem1) _ (by rfl) (by rfl) (by rfl) ?_)
            | ((with_reducible refine atL ?_); refine wp_loadP zs_length (HM.out.here (X13.heap.size, pgO zs) mem0) _ (by rfl) (by rfl) (by rfl) ?_)
            | (go_at_call 17; with_reducible refine Calls.mono (awake_walk _) ?_; rintro e w5 ⟨rfl, hb⟩; have HX := hide (below_trans HW.out (below_trans HM.out.below hb)); clear hb))
          go_ret
          exact ⟨rfl, HX.out⟩
        | true =>
          by_cases hk : bk = ck
          · subst hk
            go_upto_region 19 with fail
            have HM := hide (HM.out.new (bodyC true (bk : Int) (cL : Int) (.slice p2 cn c2)))
            go_upto_region 20 with fail
            go_name_world X19 hX19
            rw [hX19] at HM
            clear hX19 d0 d1 d2 d3 c0' c1' c2' c3'
            have HLt : Hid (∀ r ∈ [(X15.heap.size, bodyC true (bk : Int) (cL : Int) (.slice p2 cn c2)), (X13.heap.size, pgO zs), (w3.heap.size, pgO lj)], r.1 < X19.heap.size) := HM.out.lt
            have HGx := hide (HLt.out _ mem0)
            have HX19 := hide HM.out.below.size
            have HO := hide (made_own X19)
            have HMa := hide (HM.out.later (new_below X19 (.cells #[] 9) rfl))
            have HN1 := hide (show (0 + bn) * 16 ≤ 140737488355328 by have := HBn.out; omega)
            have HN2 := hide (show (bn + cn) * 16 ≤ 140737488355328 by have := HBn.out; have := HCn.out; omega)
            have HBs := hide (new_below X19 (.cells #[] 9) rfl).size
            obtain ⟨⟨d0, d1, d2, d3⟩, _⟩ := res4 (HB7.out _ HMa.out.below)
            have HT := hide (HTold.out rfl rfl rfl)
            go_upto_region 21 with (first
              | (at_builtin; refine wp_appP HO.out (Nat.le_refl _) (HS1.out.later HMa.out.below) HN1.out HBs.out _ _ (by rfl) (by rfl) (by rfl) (by rfl) ?_; intro pv cv w20 ho hk; have HMb := hide (HM.out.later (hk _ (new_below X19 (.cells #[] 9) rfl))); have HBw := hide (hk _ (new_below X19 (.cells #[] 9) rfl)).size; rw [Nat.zero_add, List.nil_append] at ho; have HOb := hide ho; obtain ⟨⟨x0, x1, x2, x3⟩, f0, f1, f2, f3⟩ := res4 (HMb.out.here (X15.heap.size, bodyC true (bk : Int) (cL : Int) (.slice p2 cn c2)) mem0); clear ho hk))
            go_name_world X20 hX20
            have HM := hide (HMb.out.cell 3 (.slice pv bn cv) : Pg X1 (w20.setCell ⟨X15.heap.size, 3, none⟩ (.slice pv bn cv)) [(X15.heap.size, bodyC true (bk : Int) (cL : Int) (.slice pv bn cv)), (X13.heap.size, pgO zs), (w3.heap.size, pgO lj)])
            have HOc := hide (own_set HOb.out (i := 3) HGx.out (.slice pv bn cv))
            have HBs2 : Hid (X19.heap.size ≤ (w20.setCell ⟨X15.heap.size, 3, none⟩ (.slice pv bn cv)).heap.size) := hide (by simpa using HBw.out)
            rw [hX20] at HM HOc HBs2
            clear hX20 x0 x1 x2 x3 f0 f1 f2 f3 d0 d1 d2 d3
            have HCv : Hid (bn ≤ cv) := by
              obtain ⟨p', c', hv, hc, _⟩ := own_strP HOc.out
              cases hv
              exact hc
            have HLt2 : Hid (∀ r ∈ [(X15.heap.size, bodyC true (bk : Int) (cL : Int) (.slice pv bn cv)), (X13.heap.size, pgO zs), (w3.heap.size, pgO lj)], r.1 < X19.heap.size) := by
              intro r hr
              rcases List.mem_cons.1 hr with rfl | hr
              · exact HGx.out
              · exact HLt.out r (List.mem_cons_of_mem _ hr)
            obtain ⟨⟨y0, y1, y2, y3⟩, _⟩ := res4 (HM.out.here (X15.heap.size, bodyC true (bk : Int) (cL : Int) (.slice pv bn cv)) mem0)
            obtain ⟨⟨d0, d1, d2, d3⟩, _⟩ := res4 (HB8.out _ HM.out.below)
            go_upto_region 22 with (first
              | (at_builtin; refine wp_appP HOc.out HCv.out (HS2.out.later HM.out.below) HN2.out HBs2.out _ _ (by rfl) (by rfl) (by rfl) (by rfl) ?_; intro pw cw w21 ho hk; have HMc := hide (HM.out.laterB HLt2.out HX19.out (hk _ (Below.refl _ _))); rw [strL_two] at ho; have HOd := hide ho; obtain ⟨⟨x0, x1, x2, x3⟩, f0, f1, f2, f3⟩ := res4 (HMc.out.here (X15.heap.size, bodyC true (bk : Int) (cL : Int) (.slice pv bn cv)) mem0); clear ho hk))
            go_name_world X21 hX21
            have hst : StrP w21 pw (bn + cn) (twoS S bn S2) := by
              obtain ⟨p', c', hv, hc, hst⟩ := own_strP HOd.out
              cases hv
              exact hst
            have HSu := hide (str_set hst HMc.out (v := .slice pw (bn + cn) cw))
            have HM := hide (HMc.out.cell 3 (.slice pw (bn + cn) cw) : Pg X1 (w21.setCell ⟨X15.heap.size, 3, none⟩ (.slice pw (bn + cn) cw)) [(X15.heap.size, bodyC true (bk : Int) (cL : Int) (.slice pw (bn + cn) cw)), (X13.heap.size, pgO zs), (w3.heap.size, pgO lj)]).swap
            rw [hX21] at HM HSu
            clear hX21 hst x0 x1 x2 x3 f0 f1 f2 f3 d0 d1 d2 d3 y0 y1 y2 y3
            obtain ⟨⟨y0, y1, y2, y3⟩, _⟩ := res4 (HM.out.here (X15.heap.size, bodyC true (bk : Int) (cL : Int) (.slice pw (bn + cn) cw)) mem1)
            have heq := fun V => eq_page HLj.out V
            go_wp2_with (first
              | (go_at_call 23; with_reducible refine Calls.mono (HT.out _ _ _ HSu.out) ?_; rintro e w22 ⟨rfl, hb⟩; have HMe := hide (HM.out.later hb); clear hb)
              | ((with_reducible refine atS ?_); refine wp_storeP HLj.out zs_length (HMe.out.here (X13.heap.size, pgO zs) mem0) _ _ (by rfl) (by rfl) (by rfl) (by rfl) ?_; intro X22 hp hb hk; have HMf := hide (HMe.out.put hp hb hk); clear hp hb hk)
              | ((with_reducible refine atL ?_); refine wp_loadP HLj.out (HMf.out.here (w3.heap.size, pgO lj) mem2) _ (by rfl) (by rfl) (by rfl) ?_)
              | ((with_reducible refine atL ?_); refine wp_loadP HLj.out (HMf.out.here (X13.heap.size, pgO lj) mem0) _ (by rfl) (by rfl) (by rfl) ?_)
              | (go_at_call 17; with_reducible refine Calls.mono (awake_walk _) ?_; rintro e w5 ⟨rfl, hb⟩; have HX := hide (below_trans HW.out (below_trans HMf.out.below hb)); clear hb))
            go_ret
            exact ⟨rfl, HX.out⟩
          · obtain ⟨rfl, rfl⟩ := HKind.out rfl rfl hk
            have gk : ¬ (bk : Int) = (ck : Int) := by omega
            have heq := fun V => eq_page zs_length V
            go_wp2_with (first
              | ((with_reducible refine atL ?_); refine wp_loadP zs_length (HM.out.here (w3.heap.size, pgO zs) mem1) _ (by rfl) (by rfl) (by rfl) ?_)
              | ((with_reducible refine atL ?_); refine wp_loadP zs_length (HM.out.here (X13.heap.size, pgO zs) mem0) _ (by rfl) (by rfl) (by rfl) ?_)
              | (go_at_call 17; with_reducible refine Calls.mono (awake_walk _) ?_; rintro e w5 ⟨rfl, hb⟩; have HX := hide (below_trans HW.out (below_trans HM.out.below hb)); clear hb))
            go_ret
            exact ⟨rfl, HX.out⟩
end Go.Proofs.Ythhoeabenngiiaa
