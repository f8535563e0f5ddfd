/- Savepoints: Save's walk. -/
/- Savepoints: Save. -/
import Derived.Test.YthgclfhfipfknaaGreatZD
namespace Go.Proofs.YthgclfhfipfknaaGreat
variable {sv : Value}
open Go.ChangeShapes Go.WideShapes Go.ChangeAt Go.RowKit Go.Maps
set_option linter.unusedVariables false

set_option maxRecDepth 20000 in
set_option maxHeartbeats 2000000 in
theorem save1_e (w : World) (B t pm n base : Nat) {P : Nat → List UInt8} {K : Nat} {wr : Bool} {S : List Sn} (h : Tr sv w t pm n P K wr) (hs : Sv w base sv S pm) (hB : Blk w B #[.pointer (some ⟨t, 0, none⟩)] 24) (hbase : base ≤ w.heap.size) (hS : S.length ≤ 1000) :
    Calls Tryz.prog 190 #[.pointer (some ⟨B, 0, none⟩)] w fun e w' => ∃ sv' q, e = .returned (.tuple #[.int .i64 ((S.length : Int) + 1), .int .i64 0]) ∧ SvW w w' t pm n base P K wr sv sv' S q := by
  have HF := hide (fun V (hb : Below w.heap.size w V) => svf_mk (h.later hb) (hB.later hb))
  have HS0 := hide (And.intro (HF.out _ (below_drew w)).cB (And.intro (HF.out _ (below_drew w)).c3 (HF.out _ (below_drew w)).c4))
  have c5d := (HF.out _ (below_drew w)).c5
  have HCl := hide (clone_e w.drew pm K n (h.mp.later (below_drew w)))
  have HAp := hide (fun (w3 w5 : World) (q g cap : Nat) h3 hq hqn ho ha => save_app (w3 := w3) (w5 := w5) (q := q) (g := g) (cap := cap) h hs hB hbase h3 hq hqn ho ha)
  have HRw := hide (fun V (hb : Below w.heap.size w V) => own_only2 hs.row (Only.of_below (S := []) hb) (by simp))
  have HSl := hide hS
  have HBs := hide hbase
  clear h hs hB hS hbase
  go_enter Tryz.func190, Tryz.ntmps190
  go_upto_region 1 with fail
  refine wp_region_held_drew (S := fun V => V.cell? ⟨B, 0, none⟩ = some (.pointer (some ⟨t, 0, none⟩)) ∧ V.cell? ⟨t, 3, none⟩ = some (.int .i64 (n : Int)) ∧ V.cell? ⟨t, 4, none⟩ = some (.map (some pm))) (by kernel_rfl) HS0.out (fun hHeld => ?_)
  refine wpAnyH_take (i := 0) (v := .pointer (some ⟨t, 0, none⟩)) rfl (by kernel_rfl) (by kernel_rfl) (by kernel_rfl) (fun _ _ _ h => h) (Or.inl ⟨by rfl, fun V hV => by (dsimp only at hV; go_simp)⟩) hHeld ?_
  try simp only [Act.put, List.setIfInBounds_toArray]
  refine wpAnyH_take (i := 1) (v := .pointer (some ⟨t, 0, none⟩)) rfl (by kernel_rfl) (by kernel_rfl) (by kernel_rfl) (fun _ _ _ h => h) (Or.inl ⟨by rfl, fun V hV => by (dsimp only at hV; go_simp)⟩) hHeld ?_
  try simp only [Act.put]
  refine wpAnyH_take (i := 2) (v := .pointer (some ⟨t, 0, none⟩)) rfl (by kernel_rfl) (by kernel_rfl) (by kernel_rfl) (fun _ _ _ h => h) (Or.inl ⟨by rfl, fun V hV => by (dsimp only at hV; go_simp)⟩) hHeld ?_
  try simp only [Act.put]
  refine wpAnyH_take (i := 3) (v := .pointer (some ⟨t, 5, none⟩)) rfl (by kernel_rfl) (by kernel_rfl) (by kernel_rfl) (fun _ _ _ h => h) (Or.inl ⟨by rfl, fun V hV => by (dsimp only at hV; go_simp)⟩) hHeld ?_
  try simp only [Act.put]
  refine wpAnyH_take (i := 5) (v := .pointer (some ⟨t, 0, none⟩)) rfl (by kernel_rfl) (by kernel_rfl) (by kernel_rfl) (fun _ _ _ h => h) (Or.inl ⟨by rfl, fun V hV => by (dsimp only at hV; go_simp)⟩) hHeld ?_
  try simp only [Act.put]
  refine wpAnyH_take (i := 6) (v := .pointer (some ⟨t, 0, none⟩)) rfl (by kernel_rfl) (by kernel_rfl) (by kernel_rfl) (fun _ _ _ h => h) (Or.inl ⟨by rfl, fun V hV => by (dsimp only at hV; go_simp)⟩) hHeld ?_
  try simp only [Act.put]
  refine wpAnyH_take (i := 7) (v := .pointer (some ⟨t, 3, none⟩)) rfl (by kernel_rfl) (by kernel_rfl) (by kernel_rfl) (fun _ _ _ h => h) (Or.inl ⟨by rfl, fun V hV => by (dsimp only at hV; go_simp)⟩) hHeld ?_
  try simp only [Act.put]
  refine wpAnyH_take (i := 8) (v := .agg #[.int .i64 (n : Int), .map (some pm)]) rfl (by kernel_rfl) (by kernel_rfl) (by kernel_rfl) (fun _ _ _ h => h) (Or.inl ⟨by rfl, fun V hV => by (dsimp only at hV; go_simp)⟩) hHeld ?_
  try simp only [Act.put]
  refine wpAnyH_ready (rs := [4, 9]) (by kernel_rfl) (by simp) ?_
  refine AllReadyH.cons rfl (fun KK hKK => ?_) (AllReadyH.cons rfl (fun KK hKK => ?_) AllReadyH.nil)
  · go_simp
    go_wp2_with fail
    refine hKK.out _ _ HS0.out (fun hHeld => ?_)
    clear hKK KK
    try simp only [Act.put, List.setIfInBounds_toArray, List.set_cons_zero, List.set_cons_succ]
    refine wpAnyH_ready (rs := [9]) (by kernel_rfl) (by simp) ?_
    refine AllReadyH.cons rfl (fun KK hKK => ?_) AllReadyH.nil
    go_simp
    (go_at_call 191; (with_reducible refine Calls.mono HCl.out ?_); rintro e w3 ⟨q, rfl, hm, hb, hqn⟩; have HM3 := hide hm; have HQ3 := hide hqn; have hb3 := below_trans (below_drew w) hb; have HB3 := hide hb3; have HS3 := hide (And.intro (HF.out _ hb3).cB (And.intro (HF.out _ hb3).c3 (HF.out _ hb3).c4)); have c53 := (HF.out _ hb3).c5; have hb4 := below_trans hb3 (below_alloc w3 (.cells #[.int .i64 (n : Int), .map (some q)] 117)); have HS4 := hide (And.intro (HF.out _ hb4).cB (And.intro (HF.out _ hb4).c3 (HF.out _ hb4).c4)); have c54 := (HF.out _ hb4).c5; clear hm hb hqn hb3 hb4)
    go_wp2_with fail
    refine hKK.out _ _ HS3.out (fun hHeld => ?_)
    clear hKK KK
    try simp only [Act.put, List.setIfInBounds_toArray, List.set_cons_zero, List.set_cons_succ]
    refine wpAnyH_ready (rs := [10]) (by kernel_rfl) (by simp) ?_
    refine AllReadyH.cons rfl (fun KK hKK => ?_) AllReadyH.nil
    go_simp
    go_wp2_with fail
    refine hKK.out _ _ HS4.out (fun hHeld => ?_)
    clear hKK KK
    try simp only [Act.put, List.setIfInBounds_toArray, List.set_cons_zero, List.set_cons_succ]
    refine wpAnyH_ready (rs := [11]) (by kernel_rfl) (by simp) ?_
    refine AllReadyH.cons rfl (fun KK hKK => ?_) AllReadyH.nil
    skip
    (refine step_appC (W := w3) ⟨n, q, K, P⟩ (HRw.out _ HB3.out) HSl.out (Nat.le_trans HBs.out HB3.out.size) _ _ (by rfl) (by rfl) (by rfl) (by rfl) ?_; intro g5 k5 w5 ho5 ha5; obtain ⟨f5, f6, f7⟩ := HAp.out _ _ _ _ _ HB3.out HM3.out HQ3.out ho5 ha5; have HS5 := hide (And.intro f5.cB (And.intro f5.c3 f5.c4)); have c55 := f5.c5; have z55 := f5.f5; have HS6 := hide (And.intro f6.cB (And.intro f6.c3 f6.c4)); have HW6 := hide f7; have HF6 := hide f6; clear ho5 ha5 f5 f6 f7)
    go_wp2_with fail
    refine hKK.out _ _ HS5.out (fun hHeld => ?_)
    clear hKK KK
    try simp only [Act.put, List.setIfInBounds_toArray]
    refine wpAnyH_take (i := 12) (v := .pointer (some ⟨t, 0, none⟩)) rfl (by kernel_rfl) (by kernel_rfl) (by kernel_rfl) (fun _ _ _ h => h) (Or.inl ⟨by rfl, fun V hV => by (dsimp only at hV; go_simp)⟩) hHeld ?_
    try simp only [Act.put]
    refine wpAnyH_take (i := 13) (v := .pointer (some ⟨t, 5, none⟩)) rfl (by kernel_rfl) (by kernel_rfl) (by kernel_rfl) (fun _ _ _ h => h) (Or.inl ⟨by rfl, fun V hV => by (dsimp only at hV; go_simp)⟩) hHeld ?_
    try simp only [Act.put]
    refine wpAnyH_ready (rs := [14]) (by kernel_rfl) (by simp) ?_
    refine AllReadyH.cons rfl (fun KK hKK => ?_) AllReadyH.nil
    go_simp
    go_wp2_with fail
    refine hKK.out _ _ HS6.out (fun hHeld => ?_)
    clear hKK KK
    try simp only [Act.put, List.setIfInBounds_toArray, List.set_cons_zero, List.set_cons_succ]
    refine wpAnyH_done (by kernel_rfl) ?_ _
    have cB6 := HF6.out.cB
    have c56 := HF6.out.c5
    go_wp2
    go_ret2
    exact ⟨_, _, rfl, HW6.out⟩
  · go_simp
    (go_at_call 191; (with_reducible refine Calls.mono HCl.out ?_); rintro e w3 ⟨q, rfl, hm, hb, hqn⟩; have HM3 := hide hm; have HQ3 := hide hqn; have hb3 := below_trans (below_drew w) hb; have HB3 := hide hb3; have HS3 := hide (And.intro (HF.out _ hb3).cB (And.intro (HF.out _ hb3).c3 (HF.out _ hb3).c4)); have c53 := (HF.out _ hb3).c5; have hb4 := below_trans hb3 (below_alloc w3 (.cells #[.int .i64 (n : Int), .map (some q)] 117)); have HS4 := hide (And.intro (HF.out _ hb4).cB (And.intro (HF.out _ hb4).c3 (HF.out _ hb4).c4)); have c54 := (HF.out _ hb4).c5; clear hm hb hqn hb3 hb4)
    go_wp2_with fail
    refine hKK.out _ _ HS3.out (fun hHeld => ?_)
    clear hKK KK
    try simp only [Act.put, List.setIfInBounds_toArray, List.set_cons_zero, List.set_cons_succ]
    refine wpAnyH_ready (rs := [4, 10]) (by kernel_rfl) (by simp) ?_
    refine AllReadyH.cons rfl (fun KK hKK => ?_) (AllReadyH.cons rfl (fun KK hKK => ?_) AllReadyH.nil)
    · go_simp
      go_wp2_with fail
      refine hKK.out _ _ HS3.out (fun hHeld => ?_)
      clear hKK KK
      try simp only [Act.put, List.setIfInBounds_toArray, List.set_cons_zero, List.set_cons_succ]
      refine wpAnyH_ready (rs := [10]) (by kernel_rfl) (by simp) ?_
      refine AllReadyH.cons rfl (fun KK hKK => ?_) AllReadyH.nil
      go_simp
      go_wp2_with fail
      refine hKK.out _ _ HS4.out (fun hHeld => ?_)
      clear hKK KK
      try simp only [Act.put, List.setIfInBounds_toArray, List.set_cons_zero, List.set_cons_succ]
      refine wpAnyH_ready (rs := [11]) (by kernel_rfl) (by simp) ?_
      refine AllReadyH.cons rfl (fun KK hKK => ?_) AllReadyH.nil
      skip
      (refine step_appC (W := w3) ⟨n, q, K, P⟩ (HRw.out _ HB3.out) HSl.out (Nat.le_trans HBs.out HB3.out.size) _ _ (by rfl) (by rfl) (by rfl) (by rfl) ?_; intro g5 k5 w5 ho5 ha5; obtain ⟨f5, f6, f7⟩ := HAp.out _ _ _ _ _ HB3.out HM3.out HQ3.out ho5 ha5; have HS5 := hide (And.intro f5.cB (And.intro f5.c3 f5.c4)); have c55 := f5.c5; have z55 := f5.f5; have HS6 := hide (And.intro f6.cB (And.intro f6.c3 f6.c4)); have HW6 := hide f7; have HF6 := hide f6; clear ho5 ha5 f5 f6 f7)
      go_wp2_with fail
      refine hKK.out _ _ HS5.out (fun hHeld => ?_)
      clear hKK KK
      try simp only [Act.put, List.setIfInBounds_toArray]
      refine wpAnyH_take (i := 12) (v := .pointer (some ⟨t, 0, none⟩)) rfl (by kernel_rfl) (by kernel_rfl) (by kernel_rfl) (fun _ _ _ h => h) (Or.inl ⟨by rfl, fun V hV => by (dsimp only at hV; go_simp)⟩) hHeld ?_
      try simp only [Act.put]
      refine wpAnyH_take (i := 13) (v := .pointer (some ⟨t, 5, none⟩)) rfl (by kernel_rfl) (by kernel_rfl) (by kernel_rfl) (fun _ _ _ h => h) (Or.inl ⟨by rfl, fun V hV => by (dsimp only at hV; go_simp)⟩) hHeld ?_
      try simp only [Act.put]
      refine wpAnyH_ready (rs := [14]) (by kernel_rfl) (by simp) ?_
      refine AllReadyH.cons rfl (fun KK hKK => ?_) AllReadyH.nil
      go_simp
      go_wp2_with fail
      refine hKK.out _ _ HS6.out (fun hHeld => ?_)
      clear hKK KK
      try simp only [Act.put, List.setIfInBounds_toArray, List.set_cons_zero, List.set_cons_succ]
      refine wpAnyH_done (by kernel_rfl) ?_ _
      have cB6 := HF6.out.cB
      have c56 := HF6.out.c5
      go_wp2
      go_ret2
      exact ⟨_, _, rfl, HW6.out⟩
    · go_simp
      go_wp2_with fail
      refine hKK.out _ _ HS4.out (fun hHeld => ?_)
      clear hKK KK
      try simp only [Act.put, List.setIfInBounds_toArray, List.set_cons_zero, List.set_cons_succ]
      refine wpAnyH_ready (rs := [4]) (by kernel_rfl) (by simp) ?_
      refine AllReadyH.cons rfl (fun KK hKK => ?_) AllReadyH.nil
      go_simp
      go_wp2_with fail
      refine hKK.out _ _ HS4.out (fun hHeld => ?_)
      clear hKK KK
      try simp only [Act.put, List.setIfInBounds_toArray, List.set_cons_zero, List.set_cons_succ]
      refine wpAnyH_ready (rs := [11]) (by kernel_rfl) (by simp) ?_
      refine AllReadyH.cons rfl (fun KK hKK => ?_) AllReadyH.nil
      skip
      (refine step_appC (W := w3) ⟨n, q, K, P⟩ (HRw.out _ HB3.out) HSl.out (Nat.le_trans HBs.out HB3.out.size) _ _ (by rfl) (by rfl) (by rfl) (by rfl) ?_; intro g5 k5 w5 ho5 ha5; obtain ⟨f5, f6, f7⟩ := HAp.out _ _ _ _ _ HB3.out HM3.out HQ3.out ho5 ha5; have HS5 := hide (And.intro f5.cB (And.intro f5.c3 f5.c4)); have c55 := f5.c5; have z55 := f5.f5; have HS6 := hide (And.intro f6.cB (And.intro f6.c3 f6.c4)); have HW6 := hide f7; have HF6 := hide f6; clear ho5 ha5 f5 f6 f7)
      go_wp2_with fail
      refine hKK.out _ _ HS5.out (fun hHeld => ?_)
      clear hKK KK
      try simp only [Act.put, List.setIfInBounds_toArray]
      refine wpAnyH_take (i := 12) (v := .pointer (some ⟨t, 0, none⟩)) rfl (by kernel_rfl) (by kernel_rfl) (by kernel_rfl) (fun _ _ _ h => h) (Or.inl ⟨by rfl, fun V hV => by (dsimp only at hV; go_simp)⟩) hHeld ?_
      try simp only [Act.put]
      refine wpAnyH_take (i := 13) (v := .pointer (some ⟨t, 5, none⟩)) rfl (by kernel_rfl) (by kernel_rfl) (by kernel_rfl) (fun _ _ _ h => h) (Or.inl ⟨by rfl, fun V hV => by (dsimp only at hV; go_simp)⟩) hHeld ?_
      try simp only [Act.put]
      refine wpAnyH_ready (rs := [14]) (by kernel_rfl) (by simp) ?_
      refine AllReadyH.cons rfl (fun KK hKK => ?_) AllReadyH.nil
      go_simp
      go_wp2_with fail
      refine hKK.out _ _ HS6.out (fun hHeld => ?_)
      clear hKK KK
      try simp only [Act.put, List.setIfInBounds_toArray, List.set_cons_zero, List.set_cons_succ]
      refine wpAnyH_done (by kernel_rfl) ?_ _
      have cB6 := HF6.out.cB
      have c56 := HF6.out.c5
      go_wp2
      go_ret2
      exact ⟨_, _, rfl, HW6.out⟩
end Go.Proofs.YthgclfhfipfknaaGreat

namespace Go.Proofs.YthgclfhfipfknaaGreat
variable {sv : Value}
open Go.ChangeShapes Go.WideShapes Go.ChangeAt Go.RowKit Go.Maps
set_option linter.unusedVariables false

theorem SvW.after {w V w' : World} {t pm n base : Nat} {P : Nat → List UInt8} {K : Nat} {wr : Bool} {sv sv' : Value} {S : List Sn} {q : Nat} (hb : Below w.heap.size w V) (h : SvW V w' t pm n base P K wr sv sv' S q) : SvW w w' t pm n base P K wr sv sv' S q := ⟨h.tr, h.ss, Only.after_below hb h.on⟩
set_option maxRecDepth 20000 in
theorem tell_save (w : World) (B t pm n base : Nat) {P : Nat → List UInt8} {K : Nat} {wr : Bool} {S : List Sn} (h : Tr sv w t pm n P K wr) (hs : Sv w base sv S pm) (hB : Blk w B #[.pointer (some ⟨t, 0, none⟩)] 24) (hbase : base ≤ w.heap.size) (hS : S.length ≤ 1000) :
    Calls Tryz.prog 53 #[.func (.func 54) #[.pointer (some ⟨t, 0, none⟩)] #[], .func (.func 190) #[] #[.pointer (some ⟨B, 0, none⟩)]] w fun e w' => ∃ sv' q, e = .returned (.tuple #[.int .i64 ((S.length : Int) + 1), .int .i64 0]) ∧ SvW w w' t pm n base P K wr sv sv' S q := by
  have HG := hide (goesOn_e w _ 0 h.goK)
  have HM := hide (fun V (hb : Below w.heap.size w V) => save1_e V B t pm n base (h.later hb) (hs.later hb) (hB.later hb) (Nat.le_trans hbase hb.size) hS)
  clear h hs hB hbase hS
  go_enter Tryz.func53, Tryz.ntmps53
  go_wp2_with (first
    | (go_at_call 54; (with_reducible refine Calls.mono HG.out ?_); rintro e w4 ⟨rfl, hb⟩; have HB4 := hide hb; clear hb)
    | (go_at_call 190; (with_reducible refine Calls.mono (HM.out _ HB4.out) ?_); rintro e w5 ⟨sv', q, rfl, hw⟩; have HW := hide (hw.after HB4.out); clear hw))
  go_ret2
  exact ⟨_, _, rfl, HW.out⟩
set_option maxRecDepth 20000 in
theorem save_e (w : World) (t pm n base : Nat) {P : Nat → List UInt8} {K : Nat} {wr : Bool} {S : List Sn} (h : Tr sv w t pm n P K wr) (hs : Sv w base sv S pm) (hbase : base ≤ w.heap.size) (hS : S.length ≤ 1000) :
    Calls Tryz.prog 109 #[.pointer (some ⟨t, 0, none⟩)] w fun e w' => ∃ sv' q, e = .returned (.tuple #[.int .i64 ((S.length : Int) + 1), .int .i64 0]) ∧ SvW w w' t pm n base P K wr sv sv' S q := by
  have HB := hide (below_alloc w (.cells #[.pointer (some ⟨t, 0, none⟩)] 24))
  have HD := hide (tell_save _ w.heap.size t pm n base (h.later HB.out) (hs.later HB.out) (Blk.new w #[.pointer (some ⟨t, 0, none⟩)] 24) (Nat.le_trans hbase HB.out.size) hS)
  clear h hs
  go_enter Tryz.func109, Tryz.ntmps109
  go_wp2_with (first
    | (go_at_call 53; (with_reducible refine Calls.mono HD.out ?_); rintro e w4 ⟨sv', q, rfl, hw⟩; have HW := hide (hw.after HB.out); clear hw))
  go_ret2
  exact ⟨_, _, rfl, HW.out⟩
end Go.Proofs.YthgclfhfipfknaaGreat
