/- Savepoints: forget and Release, whatever the pages are. -/
/- Package spill: walk over the pages of a chain. -/
import Derived.Test.YthgclfhfipfknaaGreatZJ
import Derived.RangeFuncLeaves
import Derived.Test.YthgclfhfipfknaaGreatPNB
import Derived.RangeFuncNested
namespace Go.Proofs.YthgclfhfipfknaaGreat
variable {sv : Value}
open Go.ChangeShapes Go.WideShapes Go.ChangeAt Go.RowKit Go.Maps
set_option linter.unusedVariables false

/-- A transaction that goes on, and its savepoints' row. -/
structure Lt (sv : Value) (w : World) (t base : Nat) (S : List Sn) : Prop where
  gr : ∃ j d mb l room L c n pm wr, Gr w j d mb l room L ∧ TxB w t j c n pm sv wr false ∧ mb < t
  row : w.ownsRow base 117 2 sv S.length (svL S)
theorem Lt.go {w : World} {t base : Nat} {S : List Sn} (h : Lt sv w t base S) : GoK w (some ⟨t, 0, none⟩) 0 := by
  obtain ⟨j, d, mb, l, room, L, c, n, pm, wr, h1, h2, h3⟩ := h.gr
  exact .on h1 h2
theorem Lt.blk {w : World} {t base : Nat} {S : List Sn} (h : Lt sv w t base S) : ∃ cs, Blk w t cs 122 ∧ cs[5]? = some sv := by
  obtain ⟨j, d, mb, l, room, L, c, n, pm, wr, h1, h2, h3⟩ := h.gr
  exact ⟨_, h2, (Blk.cell h2 5).symm.trans (tx5 h2)⟩
theorem Lt.later {w w' : World} {t base : Nat} {S : List Sn} (h : Lt sv w t base S) (hb : Below w.heap.size w w') : Lt sv w' t base S := by
  obtain ⟨j, d, mb, l, room, L, c, n, pm, wr, h1, h2, h3⟩ := h.gr
  exact ⟨⟨j, d, mb, l, room, L, c, n, pm, wr, h1.later hb, Blk.later h2 hb, h3⟩, own_only2 h.row (Only.of_below (S := []) hb) (by simp)⟩
theorem Lt.c5 {w : World} {t base : Nat} {S : List Sn} (h : Lt sv w t base S) : w.cell? ⟨t, 5, none⟩ = some sv := by
  obtain ⟨cs, h1, h2⟩ := h.blk
  exact (h1.cell 5).trans h2
theorem Tr.lt {w : World} {t pm n base : Nat} {P : Nat → List UInt8} {K : Nat} {wr : Bool} {S : List Sn} (h : Tr sv w t pm n P K wr) (hs : Sv w base sv S pm) : Lt sv w t base S := by
  obtain ⟨⟨j, d, mb, l, room, L, c, h1, h2, h3⟩, h4, h5, h6⟩ := h
  exact ⟨⟨j, d, mb, l, room, L, c, _, _, _, h1, h2, h3.2⟩, hs.row⟩
theorem Lt.ownF {X Y : World} {t base B : Nat} {S : List Sn} {row : Option Nat} (h : Lt sv X t base S) (hg : X.grownBy Y row) (hr : ∀ r, row = some r → B ≤ r ∧ ∃ o : Obj, X.heap[r]? = some o ∧ o.isCells = false) (ht : t < B) : Lt sv Y t base S := by
  obtain ⟨j, d, mb, l, room, L, c, n, pm, wr, h1, h2, h3⟩ := h.gr
  have ho := Only.of_grown hg
  have hk : ∀ {b : Nat} {c : Array Value} {ty : TypeId}, Blk X b c ty → b ∉ row.toList := fun {b c ty} hb hm => by
    have e : row = some b := by simpa using hm
    obtain ⟨_, o, ho', hc⟩ := hr b e
    rw [show X.heap[b]? = _ from hb] at ho'; cases ho'; cases hc
  have hm : mb ∉ row.toList := fun hm => by
    have e : row = some mb := by simpa using hm
    have := (hr mb e).1; omega
  refine ⟨⟨j, d, mb, l, room, L, c, n, pm, wr, h1.only ho (hk h1.jr) (hk h1.de.blk) hm (hk h1.lk), Blk.only h2 ho (hk h2), h3⟩, own_only2 h.row ho (fun g hgo => ?_)⟩
  obtain ⟨_, c', hb⟩ := ownC_blk h.row hgo
  exact hk hb
theorem fg_lt {w w5 : World} {t base i : Nat} {S : List Sn} {v : Value} (h : Lt sv w t base S) (hd : DlW w w5 base sv v S i) :
    w5.cell? ⟨t, 5, none⟩ = some sv ∧ w5.frozen? ⟨t, 5, none⟩ = false ∧ Only (t :: sv.ownBlock.toList) w (w5.setCell ⟨t, 5, none⟩ v) := by
  obtain ⟨cs, h1, h2⟩ := h.blk
  have hX : t ∉ sv.ownBlock.toList := fun hb => by
    have e : sv.ownBlock = some t := by simpa using hb
    obtain ⟨_, c, hc⟩ := ownC_blk h.row e
    exact blk_ne h1 hc (by decide) rfl
  have h5 := h1.only hd.on hX
  refine ⟨(h5.cell 5).trans h2, h5.frozen 5, ?_⟩
  refine Only.trans (hd.on.mono (fun j hj => List.mem_cons_of_mem _ hj)) ((Only.setCell w5 ⟨t, 5, none⟩ v).mono (fun j hj => ?_))
  simp at hj; subst hj; simp
set_option maxRecDepth 20000 in
set_option maxHeartbeats 2000000 in
theorem forget_l (w : World) (t base i : Nat) {S : List Sn} (h : Lt sv w t base S) (hi : i ≤ S.length) (hS : S.length ≤ 2000) :
    Calls Tryz.prog 194 #[.pointer (some ⟨t, 0, none⟩), .int .i64 (i : Int)] w fun e w' => e = .returned (.tuple #[]) ∧ Only (t :: sv.ownBlock.toList) w w' := by
  have c5d : w.drew.cell? ⟨t, 5, none⟩ = some sv := (h.later (below_drew w)).c5
  have HD := hide (del_e w.drew base i (h.later (below_drew w)).row hi hS)
  have HFg := hide (fun (w5 : World) (v : Value) (hd : DlW w.drew w5 base sv v S i) => fg_lt (h.later (below_drew w)) hd)
  obtain ⟨p, cap, rfl, h1, h2, h3⟩ := own_formC h.row
  clear h h1 h2 h3 hi hS
  go_enter Tryz.func194, Tryz.ntmps194
  go_upto_region 0 with fail
  refine wp_region_held_drew (S := fun _ => True) (by kernel_rfl) trivial (fun hHeld => ?_)
  refine wpAnyH_take (i := 0) (v := .pointer (some ⟨t, 0, none⟩)) rfl (by kernel_rfl) (by kernel_rfl) (by kernel_rfl) (fun _ _ _ h => h) (Or.inl ⟨by rfl, fun V hV => by (try dsimp only at hV); go_simp⟩) hHeld ?_
  try simp only [Act.put, List.setIfInBounds_toArray]
  refine wpAnyH_take (i := 1) (v := .pointer (some ⟨t, 0, none⟩)) rfl (by kernel_rfl) (by kernel_rfl) (by kernel_rfl) (fun _ _ _ h => h) (Or.inl ⟨by rfl, fun V hV => by (try dsimp only at hV); go_simp⟩) hHeld ?_
  try simp only [Act.put]
  refine wpAnyH_take (i := 2) (v := .pointer (some ⟨t, 0, none⟩)) rfl (by kernel_rfl) (by kernel_rfl) (by kernel_rfl) (fun _ _ _ h => h) (Or.inl ⟨by rfl, fun V hV => by (try dsimp only at hV); go_simp⟩) hHeld ?_
  try simp only [Act.put]
  refine wpAnyH_take (i := 3) (v := .pointer (some ⟨t, 5, none⟩)) rfl (by kernel_rfl) (by kernel_rfl) (by kernel_rfl) (fun _ _ _ h => h) (Or.inl ⟨by rfl, fun V hV => by (try dsimp only at hV); go_simp⟩) hHeld ?_
  try simp only [Act.put]
  refine wpAnyH_take (i := 5) (v := .int .i64 (i : Int)) rfl (by kernel_rfl) (by kernel_rfl) (by kernel_rfl) (fun _ _ _ h => h) (Or.inl ⟨by rfl, fun V hV => by (try dsimp only at hV); go_simp⟩) hHeld ?_
  try simp only [Act.put]
  refine wpAnyH_take (i := 6) (v := .pointer (some ⟨t, 0, none⟩)) rfl (by kernel_rfl) (by kernel_rfl) (by kernel_rfl) (fun _ _ _ h => h) (Or.inl ⟨by rfl, fun V hV => by (try dsimp only at hV); go_simp⟩) hHeld ?_
  try simp only [Act.put]
  refine wpAnyH_take (i := 7) (v := .pointer (some ⟨t, 0, none⟩)) rfl (by kernel_rfl) (by kernel_rfl) (by kernel_rfl) (fun _ _ _ h => h) (Or.inl ⟨by rfl, fun V hV => by (try dsimp only at hV); go_simp⟩) hHeld ?_
  try simp only [Act.put]
  refine wpAnyH_take (i := 8) (v := .pointer (some ⟨t, 5, none⟩)) rfl (by kernel_rfl) (by kernel_rfl) (by kernel_rfl) (fun _ _ _ h => h) (Or.inl ⟨by rfl, fun V hV => by (try dsimp only at hV); go_simp⟩) hHeld ?_
  try simp only [Act.put]
  refine wpAnyH_ready (rs := [4, 9]) (by kernel_rfl) (by simp) ?_
  refine AllReadyH.cons rfl (fun KK hKK => ?_) (AllReadyH.cons rfl (fun KK hKK => ?_) AllReadyH.nil)
  · go_simp
    go_wp2_with fail
    refine hKK.out _ _ trivial (fun hHeld => ?_)
    clear hKK KK
    try simp only [Act.put, List.setIfInBounds_toArray, List.set_cons_zero, List.set_cons_succ]
    refine wpAnyH_ready (rs := [9]) (by kernel_rfl) (by simp) ?_
    refine AllReadyH.cons rfl (fun KK hKK => ?_) AllReadyH.nil
    go_simp
    go_wp2_with fail
    refine hKK.out _ _ trivial (fun hHeld => ?_)
    clear hKK KK
    try simp only [Act.put, List.setIfInBounds_toArray, List.set_cons_zero, List.set_cons_succ]
    refine wpAnyH_take (i := 10) (v := .int .i64 (S.length : Int)) rfl (by kernel_rfl) (by kernel_rfl) (by kernel_rfl) (fun _ _ _ h => h) (Or.inl ⟨by rfl, fun V hV => by (try dsimp only at hV); go_simp⟩) hHeld ?_
    try simp only [Act.put, List.setIfInBounds_toArray]
    refine wpAnyH_ready (rs := [11]) (by kernel_rfl) (by simp) ?_
    refine AllReadyH.cons rfl (fun KK hKK => ?_) AllReadyH.nil
    go_simp
    (go_at_call 249; (with_reducible refine Calls.mono HD.out ?_); rintro e w5 ⟨p5, k5, rfl, hd⟩; obtain ⟨c5w, f5w, hf⟩ := HFg.out _ _ hd; have HF5 := hide hf; clear hd hf)
    go_wp2_with fail
    refine hKK.out _ _ trivial (fun hHeld => ?_)
    clear hKK KK
    try simp only [Act.put, List.setIfInBounds_toArray, List.set_cons_zero, List.set_cons_succ]
    refine wpAnyH_take (i := 12) (v := .pointer (some ⟨t, 0, none⟩)) rfl (by kernel_rfl) (by kernel_rfl) (by kernel_rfl) (fun _ _ _ h => h) (Or.inl ⟨by rfl, fun V hV => by (try dsimp only at hV); go_simp⟩) hHeld ?_
    try simp only [Act.put, List.setIfInBounds_toArray]
    refine wpAnyH_take (i := 13) (v := .pointer (some ⟨t, 5, none⟩)) rfl (by kernel_rfl) (by kernel_rfl) (by kernel_rfl) (fun _ _ _ h => h) (Or.inl ⟨by rfl, fun V hV => by (try dsimp only at hV); go_simp⟩) hHeld ?_
    try simp only [Act.put]
    refine wpAnyH_ready (rs := [14]) (by kernel_rfl) (by simp) ?_
    refine AllReadyH.cons rfl (fun KK hKK => ?_) AllReadyH.nil
    go_simp
    go_wp2_with fail
    refine hKK.out _ _ trivial (fun hHeld => ?_)
    clear hKK KK
    try simp only [Act.put, List.setIfInBounds_toArray, List.set_cons_zero, List.set_cons_succ]
    refine wpAnyH_done (by kernel_rfl) ?_ _
    go_wp2
    all_goals go_end0
    exact ⟨rfl, Only.trans (Only.drew w _) HF5.out⟩
  · go_simp
    go_wp2_with fail
    refine hKK.out _ _ trivial (fun hHeld => ?_)
    clear hKK KK
    try simp only [Act.put, List.setIfInBounds_toArray, List.set_cons_zero, List.set_cons_succ]
    refine wpAnyH_take (i := 10) (v := .int .i64 (S.length : Int)) rfl (by kernel_rfl) (by kernel_rfl) (by kernel_rfl) (fun _ _ _ h => h) (Or.inl ⟨by rfl, fun V hV => by (try dsimp only at hV); go_simp⟩) hHeld ?_
    try simp only [Act.put, List.setIfInBounds_toArray]
    refine wpAnyH_ready (rs := [4]) (by kernel_rfl) (by simp) ?_
    refine AllReadyH.cons rfl (fun KK hKK => ?_) AllReadyH.nil
    go_simp
    go_wp2_with fail
    refine hKK.out _ _ trivial (fun hHeld => ?_)
    clear hKK KK
    try simp only [Act.put, List.setIfInBounds_toArray, List.set_cons_zero, List.set_cons_succ]
    refine wpAnyH_ready (rs := [11]) (by kernel_rfl) (by simp) ?_
    refine AllReadyH.cons rfl (fun KK hKK => ?_) AllReadyH.nil
    go_simp
    (go_at_call 249; (with_reducible refine Calls.mono HD.out ?_); rintro e w5 ⟨p5, k5, rfl, hd⟩; obtain ⟨c5w, f5w, hf⟩ := HFg.out _ _ hd; have HF5 := hide hf; clear hd hf)
    go_wp2_with fail
    refine hKK.out _ _ trivial (fun hHeld => ?_)
    clear hKK KK
    try simp only [Act.put, List.setIfInBounds_toArray, List.set_cons_zero, List.set_cons_succ]
    refine wpAnyH_take (i := 12) (v := .pointer (some ⟨t, 0, none⟩)) rfl (by kernel_rfl) (by kernel_rfl) (by kernel_rfl) (fun _ _ _ h => h) (Or.inl ⟨by rfl, fun V hV => by (try dsimp only at hV); go_simp⟩) hHeld ?_
    try simp only [Act.put, List.setIfInBounds_toArray]
    refine wpAnyH_take (i := 13) (v := .pointer (some ⟨t, 5, none⟩)) rfl (by kernel_rfl) (by kernel_rfl) (by kernel_rfl) (fun _ _ _ h => h) (Or.inl ⟨by rfl, fun V hV => by (try dsimp only at hV); go_simp⟩) hHeld ?_
    try simp only [Act.put]
    refine wpAnyH_ready (rs := [14]) (by kernel_rfl) (by simp) ?_
    refine AllReadyH.cons rfl (fun KK hKK => ?_) AllReadyH.nil
    go_simp
    go_wp2_with fail
    refine hKK.out _ _ trivial (fun hHeld => ?_)
    clear hKK KK
    try simp only [Act.put, List.setIfInBounds_toArray, List.set_cons_zero, List.set_cons_succ]
    refine wpAnyH_done (by kernel_rfl) ?_ _
    go_wp2
    all_goals go_end0
    exact ⟨rfl, Only.trans (Only.drew w _) HF5.out⟩
set_option maxRecDepth 20000 in
theorem hasSave_l (w : World) (t base : Nat) (i : Int) {S : List Sn} (h : Lt sv w t base S) :
    Calls Tryz.prog 193 #[.pointer (some ⟨t, 0, none⟩), .int .i64 i] w fun e w' => e = .returned (.bool (hsB i S.length)) ∧ w = w' := by
  have c5 := h.c5
  obtain ⟨p, cap, rfl, h1, h2, h3⟩ := own_formC h.row
  clear h h1 h2 h3
  by_cases ha : 1 ≤ i
  · by_cases hb : i ≤ (S.length : Int)
    · have hr : hsB i S.length = true := decide_eq_true ⟨ha, hb⟩
      rw [hr]
      clear hr
      go_enter Tryz.func193, Tryz.ntmps193
      go_wp2_with fail
      go_ret
      exact ⟨rfl, rfl⟩
    · have hr : hsB i S.length = false := decide_eq_false (fun h => hb h.2)
      rw [hr]
      clear hr
      go_enter Tryz.func193, Tryz.ntmps193
      go_wp2_with fail
      go_ret
      exact ⟨rfl, rfl⟩
  · have hr : hsB i S.length = false := decide_eq_false (fun h => ha h.1)
    rw [hr]
    clear hr
    go_enter Tryz.func193, Tryz.ntmps193
    go_wp2_with fail
    go_ret
    exact ⟨rfl, rfl⟩
set_option maxRecDepth 20000 in
theorem release1_l (w : World) (A B t base i : Nat) {S : List Sn} (h : Lt sv w t base S) (hB : Blk w B #[.pointer (some ⟨t, 0, none⟩)] 24) (hA : Blk w A #[.int .i64 (i : Int)] 3) (h1 : 1 ≤ i) (h2 : i ≤ S.length) (hS : S.length ≤ 2000) :
    Calls Tryz.prog 192 #[.pointer (some ⟨B, 0, none⟩), .pointer (some ⟨A, 0, none⟩)] w fun e w' => e = .returned (.int .i64 0) ∧ Only (t :: sv.ownBlock.toList) w w' := by
  have cB : w.cell? ⟨B, 0, none⟩ = some (.pointer (some ⟨t, 0, none⟩)) := hB.cell 0
  have cA : w.cell? ⟨A, 0, none⟩ = some (.int .i64 (i : Int)) := hA.cell 0
  have HH := hide (hasSave_l w t base (i : Int) h)
  rw [show hsB (i : Int) S.length = true from decide_eq_true (by omega)] at HH
  have HF := hide (forget_l w t base (i - 1) h (by omega) hS)
  have hw1 : IntKind.i64.wrap ((i : Int) - 1) = ((i - 1 : Nat) : Int) := by rw [IntKind.wrap_i64]; omega
  clear h hB hA h1 h2 hS
  generalize i - 1 = k at *
  go_enter Tryz.func192, Tryz.ntmps192
  go_wp2_with (first
    | (go_at_call 193; (with_reducible refine Calls.mono HH.out ?_); rintro e w4 ⟨rfl, rfl⟩)
    | (go_at_call 194; (with_reducible refine Calls.mono HF.out ?_); rintro e w5 ⟨rfl, hf⟩; have HF5 := hide hf; clear hf))
  go_ret
  exact ⟨rfl, HF5.out⟩
set_option maxRecDepth 20000 in
theorem do_release_l (w : World) (A B t base i : Nat) {S : List Sn} (h : Lt sv w t base S) (hB : Blk w B #[.pointer (some ⟨t, 0, none⟩)] 24) (hA : Blk w A #[.int .i64 (i : Int)] 3) (h1 : 1 ≤ i) (h2 : i ≤ S.length) (hS : S.length ≤ 2000) :
    Calls Tryz.prog 56 #[.func (.func 54) #[.pointer (some ⟨t, 0, none⟩)] #[], .func (.func 192) #[] #[.pointer (some ⟨B, 0, none⟩), .pointer (some ⟨A, 0, none⟩)]] w fun e w' => e = .returned (.int .i64 0) ∧ Only (t :: sv.ownBlock.toList) w w' := by
  have HG := hide (goesOn_e w _ 0 h.go)
  have HM := hide (fun V (hb : Below w.heap.size w V) => release1_l V A B t base i (h.later hb) (hB.later hb) (hA.later hb) h1 h2 hS)
  clear h hB hA h1 h2 hS
  go_enter Tryz.func56, Tryz.ntmps56
  go_wp2_with (first
    | (go_at_call 54; (with_reducible refine Calls.mono HG.out ?_); rintro e w4 ⟨rfl, hb⟩; have HB4 := hide hb; clear hb)
    | (go_at_call 192; (with_reducible refine Calls.mono (HM.out _ HB4.out) ?_); rintro e w5 ⟨rfl, hf⟩; have HR := hide (Only.after_below HB4.out hf); clear hf))
  go_ret
  exact ⟨rfl, HR.out⟩
set_option maxRecDepth 20000 in
theorem release_d (N : Nat) (u : FrameMode) (w : World) (t base i : Nat) {S : List Sn} (h : Lt sv w t base S) (h1 : 1 ≤ i) (h2 : i ≤ S.length) (hS : S.length ≤ 2000) :
    CallsDIn Fence.wide N Tryz.prog 110 #[.pointer (some ⟨t, 0, none⟩), .int .i64 (i : Int)] u w fun e u' w' => u' = u ∧ (e = .returned (.int .i64 0) ∧ Only (t :: sv.ownBlock.toList) w w') := by
  have HB0 := hide (below_alloc w (.cells #[.pointer (some ⟨t, 0, none⟩)] 24))
  obtain ⟨w1, hw1⟩ : ∃ w1, w1 = w.alloc (.cells #[.pointer (some ⟨t, 0, none⟩)] 24) := ⟨_, rfl⟩
  rw [← hw1] at HB0
  have k1 : Blk w1 w.heap.size #[.pointer (some ⟨t, 0, none⟩)] 24 := by rw [hw1]; exact Blk.new _ _ _
  have hb2 := below_alloc w1 (.cells #[.int .i64 (i : Int)] 3)
  have HB2 := hide (below_trans HB0.out hb2)
  have HD := hide (do_release_l _ w1.heap.size w.heap.size t base i (h.later HB2.out) (k1.later hb2) (Blk.new w1 #[.int .i64 (i : Int)] 3) h1 h2 hS)
  rw [hw1] at HD HB2
  rw [show (w.alloc (.cells #[.pointer (some ⟨t, 0, none⟩)] 24)).heap.size = w.heap.size + 1 by simp] at HD
  clear h hb2 k1 hw1
  refine callsDIn_of_wp Tryz.func110 rfl trivial ?_ rfl
  refine wpIn_wide.2 ?_
  simp only [Tryz.ntmps110, List.size_toArray, List.length_cons, List.length_nil, Nat.reduceAdd, Nat.reduceSub, Array.replicate_succ, Array.replicate_zero, List.push_toArray, List.append_toArray, List.nil_append, List.cons_append]
  go_wp2_with (first
    | (go_at_call 56; (with_reducible refine Calls.mono HD.out ?_); rintro e w4 ⟨rfl, hf⟩; have HR := hide (Only.after_below HB2.out hf); clear hf))
  go_ret
  exact ⟨rfl, HR.out⟩
end Go.Proofs.YthgclfhfipfknaaGreat

namespace Go.Proofs.YthgclfhfipfknaaGreat
variable {sv : Value}
open Go.ChangeShapes Go.WideShapes Go.ChangeAt Go.RowKit Go.Maps Go.Shelf
set_option linter.unusedVariables false
attribute [local go_sem] Oper.semAt_some

theorem Tr.ownF {X Y : World} {t pm n B : Nat} {P : Nat → List UInt8} {K : Nat} {wr : Bool} {row : Option Nat} (h : Tr sv X t pm n P K wr) (hg : X.grownBy Y row) (hr : ∀ r, row = some r → B ≤ r ∧ ∃ o : Obj, X.heap[r]? = some o ∧ o.isCells = false) (ht : t < B) (hp : pm < B) : Tr sv Y t pm n P K wr := by
  obtain ⟨⟨j, d, mb, l, room, L, c, h1, h2, h3⟩, ⟨D, ⟨es, cl, he, q1, q2, q3⟩, q4, q5⟩, h5, h6⟩ := h
  have ho := Only.of_grown hg
  have hk : ∀ {b : Nat} {c : Array Value} {ty : TypeId}, Blk X b c ty → b ∉ row.toList := fun {b c ty} hb hm => by
    have e : row = some b := by simpa using hm
    obtain ⟨_, o, ho', hc⟩ := hr b e
    rw [show X.heap[b]? = _ from hb] at ho'; cases ho'; cases hc
  have hm : ∀ b, b < B → b ∉ row.toList := fun b hb hm => by
    have e : row = some b := by simpa using hm
    have := (hr b e).1; omega
  exact ⟨⟨j, d, mb, l, room, L, c, h1.only ho (hk h1.jr) (hk h1.de.blk) (hm mb (by omega)) (hk h1.lk), Blk.only h2 ho (hk h2), h3⟩, ⟨D, ⟨es, cl, ho.blk he (hm pm hp), q1, q2, q3⟩, q4, q5⟩, h5, h6⟩
/-- Savepoints beside a change of objects that are no cells. -/
theorem Sv.ownF {X Y : World} {base pm B : Nat} {S : List Sn} {row : Option Nat} (h : Sv X base sv S pm) (hg : X.grownBy Y row) (hr : ∀ r, row = some r → B ≤ r ∧ ∃ o : Obj, X.heap[r]? = some o ∧ o.isCells = false) (hS : ∀ s ∈ S, s.pm < B) : Sv Y base sv S pm := by
  refine h.only (Only.of_grown hg) (fun g hgo hm => ?_) (fun s hs hm => ?_)
  · have e : row = some g := by simpa using hm
    obtain ⟨_, c, hb⟩ := ownC_blk h.row hgo
    obtain ⟨_, o, ho', hc⟩ := hr g e
    rw [show X.heap[g]? = _ from hb] at ho'; cases ho'; cases hc
  · have e : row = some s.pm := by simpa using hm
    have := (hr s.pm e).1
    have := hS s hs
    omega
end Go.Proofs.YthgclfhfipfknaaGreat
