/- Savepoints: slices.Delete of the last ones. -/
/- Savepoints: forget. -/
import Derived.Test.YthgclfhfipfknaaGreatZD
namespace Go.Proofs.YthgclfhfipfknaaGreat
variable {sv : Value}
open Go.ChangeShapes Go.WideShapes Go.ChangeAt Go.RowKit Go.Maps
set_option linter.unusedVariables false

def zC : Array Value := #[.int .i64 0, .map none]
theorem zerosC_length (n : Nat) : (Builtin.zeroCells zC n).toList.length = n * 2 := by simp [Builtin.zeroCells, zC]
theorem zerosC_one (n : Nat) : ∀ v ∈ (Builtin.zeroCells zC n).toList, v.oneCell' = true := by
  intro v hv
  simp only [Builtin.zeroCells, Array.toList_map, List.mem_map] at hv
  obtain ⟨i, _, rfl⟩ := hv
  have hlt : i % zC.size < zC.size := Nat.mod_lt _ (by simp [zC])
  rw [getElem!_pos zC _ hlt]
  have hm : zC[i % zC.size] ∈ zC := Array.getElem_mem hlt
  generalize zC[i % zC.size] = u at hm
  simp only [zC, List.mem_toArray, List.mem_cons, List.not_mem_nil, or_false] at hm
  rcases hm with rfl | rfl <;> rfl
theorem clearC_run (w : World) (g o n c : Nat) (hn : 0 < n) (ht : w.there g o (n * 2)) (ty : TypeId) : (Builtin.clear_ #[120] ty #[.slice (some ⟨g, o, none⟩) n c]).run Tryz.prog w = .ok (.tuple #[]) (w.setCells g o (Builtin.zeroCells zC n).toList) := by
  have hst := run_storeCells_cells (P := Tryz.prog) g o (Builtin.zeroCells zC n).toList 0 w (fun j hj => by rw [zerosC_length] at hj; simpa using (ht j hj).1) (fun j hj => by rw [zerosC_length] at hj; simpa using (ht j hj).2) (zerosC_one n)
  simp only [Nat.add_zero] at hst
  obtain ⟨m, rfl⟩ : ∃ m, n = m + 1 := ⟨n - 1, by omega⟩
  simp only [zC] at hst ⊢
  simp [Builtin.clear_, run_underlying Tryz.underlying120, Value.cells, hst]
theorem Blk.there {w : World} {g : Nat} {c : Array Value} {t : TypeId} (h : Blk w g c t) {o n : Nat} (ho : o + n ≤ c.size) : w.there g o n := fun j hj => ⟨by rw [h.cell, Array.getElem?_eq_getElem (by omega)]; rfl, h.frozen _⟩
/-- The row is shorter then. -/
theorem own_cutS {w : World} {base g cap n i : Nat} {xs : List Value} (h : w.ownsRow base 117 2 (.slice (some ⟨g, 0, none⟩) n cap) n xs) (hi : i < n) : w.there g (i * 2) ((n - i) * 2) ∧ (w.setCells g (i * 2) (Builtin.zeroCells zC (n - i)).toList).ownsRow base 117 2 (.slice (some ⟨g, 0, none⟩) i cap) i (xs.take (i * 2)) ∧ Only [g] w (w.setCells g (i * 2) (Builtin.zeroCells zC (n - i)).toList) := by
  have hx := h.1
  rcases h.2 with ⟨e, h0⟩ | ⟨g', cap', cur, e, hb, hh, hn, hm, hs, ht⟩
  · omega
  · injection e with e1 e2 e3
    injection e1 with e1
    injection e1 with e1
    subst e1; subst e3
    have hB : Blk w g cur 117 := hh
    have hl := zerosC_length (n - i)
    refine ⟨hB.there (by omega), ⟨by simp; omega, .inr ⟨g, cap, _, rfl, hb, blk_cells (Builtin.zeroCells zC (n - i)).toList (i * 2) w cur hB (by rw [hl]; omega), by omega, hm, ?_, ?_⟩⟩, only_cells _ _ _ _⟩
    · simp only [List.size_toArray, List.length_append, List.length_take, List.length_drop, hl, Array.length_toList]
      omega
    · rw [← ht, List.take_take, show min (i * 2) (n * 2) = i * 2 by omega]
      simp only [List.append_assoc]
      rw [List.take_append_of_le_length (by simp; omega), List.take_take, Nat.min_self]
set_option maxRecDepth 20000 in
set_option maxHeartbeats 1000000 in
theorem del_tail (w : World) (base g cap n i : Nat) (xs : List Value) (h : w.ownsRow base 117 2 (.slice (some ⟨g, 0, none⟩) n cap) n xs) (hi : i < n) (hn : n ≤ 2000) :
    Calls Tryz.prog 249 #[.slice (some ⟨g, 0, none⟩) n cap, .int .i64 (i : Int), .int .i64 (n : Int)] w fun e w' => e = .returned (.slice (some ⟨g, 0, none⟩) i cap) ∧ w'.ownsRow base 117 2 (.slice (some ⟨g, 0, none⟩) i cap) i (xs.take (i * 2)) ∧ Only [g] w w' := by
  have hcap : n ≤ cap := by
    rcases h.2 with ⟨e, h0⟩ | ⟨g', cap', cur, e, _, _, h1, _⟩
    · omega
    · injection e with e1 e2 e3; omega
  have l1 : (0 : Int) ≤ (i : Int) := by omega
  have l2 : (i : Int) ≤ (n : Int) := by omega
  have l3 : (n : Int) ≤ (cap : Int) := by omega
  have l4 : (i : Int) ≤ (cap : Int) := by omega
  have l5 : ((i : Int) == (n : Int)) = false := by simp; omega
  have l6 : (0 : Int) ≤ (n : Int) := by omega
  have HO := hide h
  have Hi := hide hi
  have l7 : i ≤ cap := by omega
  have l8 : ¬ cap = i := by omega
  have l9 : ¬ n = i := by omega
  have HC := hide (own_cutS (w := w.drew) h hi)
  have hcl := clearC_run w.drew g (i * 2) (n - i) (cap - i) (by omega) HC.out.1 0
  clear h hi hcap hn
  go_enter Tryz.func249, Tryz.ntmps249
  go_upto_region 5 with fail
  by_cases hcn : cap = n
  · subst hcn
    go_region
    go_wp2_with fail
    go_ret
    exact ⟨rfl, HC.out.2.1, (Only.drew w [g]).trans HC.out.2.2⟩
  · go_region
    go_wp2_with fail
    go_ret
    exact ⟨rfl, HC.out.2.1, (Only.drew w [g]).trans HC.out.2.2⟩
end Go.Proofs.YthgclfhfipfknaaGreat

namespace Go.Proofs.YthgclfhfipfknaaGreat
variable {sv : Value}
open Go.ChangeShapes Go.WideShapes Go.ChangeAt Go.RowKit Go.Maps
set_option linter.unusedVariables false

set_option maxRecDepth 20000 in
set_option maxHeartbeats 1000000 in
theorem del_all (w : World) (p : Option Addr) (n cap : Nat) (hn : n ≤ cap) (hp : p = none → n = 0 ∧ cap = 0) :
    Calls Tryz.prog 249 #[.slice p n cap, .int .i64 (n : Int), .int .i64 (n : Int)] w fun e w' => e = .returned (.slice p n cap) ∧ w = w' := by
  have l1 : (0 : Int) ≤ (n : Int) := by omega
  have l3 : (n : Int) ≤ (cap : Int) := by omega
  cases p with
  | none =>
    obtain ⟨rfl, rfl⟩ := hp rfl
    clear l1 l3 hn hp
    go_enter Tryz.func249, Tryz.ntmps249
    go_wp2_with fail
    go_ret
    exact ⟨rfl, rfl⟩
  | some ad =>
    clear hn hp
    go_enter Tryz.func249, Tryz.ntmps249
    go_wp2_with fail
    all_goals go_ret
    all_goals exact ⟨rfl, rfl⟩
theorem svL_take (S : List Sn) (i : Nat) : (svL S).take (i * 2) = svL (S.take i) := by
  induction S generalizing i with
  | nil => simp [svL]
  | cons s S ih =>
    cases i with
    | zero => simp [svL]
    | succ i =>
      have := ih i
      simp only [svL, List.flatMap_cons, List.take_succ_cons] at this ⊢
      rw [← this, show (i + 1) * 2 = i * 2 + 1 + 1 by omega]
      simp [snC]
theorem own_formC {w : World} {base n e size : Nat} {v : Value} {xs : List Value} (h : w.ownsRow base e size v n xs) : ∃ p cap, v = .slice p n cap ∧ n ≤ cap ∧ (p = none → n = 0 ∧ cap = 0) ∧ (n = 0 ∨ ∃ g, p = some ⟨g, 0, none⟩) := by
  rcases h.2 with ⟨rfl, rfl⟩ | ⟨g, cap, cur, rfl, _, _, h1, _⟩
  · exact ⟨none, 0, rfl, Nat.le_refl _, fun _ => ⟨rfl, rfl⟩, .inl rfl⟩
  · exact ⟨_, cap, rfl, h1, (fun h => by cases h), .inr ⟨g, rfl⟩⟩
/-- What is left of the savepoints. -/
structure DlW (w w' : World) (base : Nat) (sv sv' : Value) (S : List Sn) (i : Nat) : Prop where
  row : w'.ownsRow base 117 2 sv' i (svL (S.take i))
  on : Only sv.ownBlock.toList w w'
theorem del_e (w : World) (base i : Nat) {S : List Sn} (h : w.ownsRow base 117 2 sv S.length (svL S)) (hi : i ≤ S.length) (hS : S.length ≤ 2000) :
    Calls Tryz.prog 249 #[sv, .int .i64 (i : Int), .int .i64 (S.length : Int)] w fun e w' => ∃ p cap, e = .returned (.slice p i cap) ∧ DlW w w' base sv (.slice p i cap) S i := by
  obtain ⟨p, cap, rfl, h1, h2, h3⟩ := own_formC h
  by_cases he : i = S.length
  · subst he
    refine (del_all w p S.length cap h1 h2).mono fun e w' hh => ⟨p, cap, hh.1, ?_, ?_⟩
    · rw [← hh.2]; simpa using h
    · rw [← hh.2]; exact Only.refl _ _
  · obtain ⟨g, rfl⟩ : ∃ g, p = some ⟨g, 0, none⟩ := by
      rcases h3 with h3 | h3
      · omega
      · exact h3
    refine (del_tail w base g cap S.length i (svL S) h (by omega) hS).mono fun e w' hh => ⟨_, cap, hh.1, ?_, hh.2.2⟩
    rw [← svL_take]; exact hh.2.1
/-- What forget leaves. -/
structure FgW (w w' : World) (t pm n base : Nat) (P : Nat → List UInt8) (K : Nat) (wr : Bool) (sv sv' : Value) (S : List Sn) (i : Nat) : Prop where
  tr : Tr sv' w' t pm n P K wr
  ss : Sv w' base sv' (S.take i) pm
  on : Only (t :: sv.ownBlock.toList) w w'
theorem fg_mk {w w5 : World} {t pm n base i : Nat} {P : Nat → List UInt8} {K : Nat} {wr : Bool} {S : List Sn} {v : Value} (h : Tr sv w t pm n P K wr) (hs : Sv w base sv S pm) (hd : DlW w w5 base sv v S i) :
    w5.cell? ⟨t, 5, none⟩ = some sv ∧ w5.frozen? ⟨t, 5, none⟩ = false ∧ FgW w (w5.setCell ⟨t, 5, none⟩ v) t pm n base P K wr sv v S i := by
  have hX : ∀ b ∈ sv.ownBlock.toList, ∃ c, Blk w b c 117 := fun b hb => by
    have e : sv.ownBlock = some b := by simpa using hb
    exact (ownC_blk hs.row e).2
  have h5 := h.onlyC hd.on hX
  have h6 := h5.setS v
  obtain ⟨cs, hc⟩ := h5.blk
  refine ⟨h5.c5, h5.frz 5, h6, ⟨?_, ?_⟩, ?_⟩
  · have hl : (S.take i).length = i := by
      have := hd.row.1
      rw [svL_length] at this
      omega
    rw [hl]
    refine own_only2 hd.row (Only.setCell w5 ⟨t, 5, none⟩ v) (fun k hk => ?_)
    obtain ⟨_, c, hg⟩ := ownC_blk hd.row hk
    have := blk_ne hg hc (by decide)
    simpa using this
  · intro s hsm
    obtain ⟨e1, e2⟩ := hs.each s (List.mem_of_mem_take hsm)
    have e5 : MpI w5 s.pm s.K s.n s.P := e1.only hd.on (fun hb => by
      obtain ⟨c, hc'⟩ := hX _ hb
      obtain ⟨es, cl, he⟩ := e1.obj
      exact blk_map hc' he rfl)
    refine ⟨?_, e2⟩
    obtain ⟨es, cl, he⟩ := e5.obj
    have := blk_map hc he
    exact e5.kept (grownBy_cell _ _ _ _) (by simp; omega)
  · refine Only.trans (hd.on.mono (fun j hj => List.mem_cons_of_mem _ hj)) ((Only.setCell w5 ⟨t, 5, none⟩ v).mono (fun j hj => ?_))
    simp at hj; subst hj; simp
set_option maxRecDepth 20000 in
set_option maxHeartbeats 2000000 in
theorem forget_e (w : World) (t pm n base i : Nat) {P : Nat → List UInt8} {K : Nat} {wr : Bool} {S : List Sn} (h : Tr sv w t pm n P K wr) (hs : Sv w base sv S pm) (hi : i ≤ S.length) (hS : S.length ≤ 2000) :
    Calls Tryz.prog 194 #[.pointer (some ⟨t, 0, none⟩), .int .i64 (i : Int)] w fun e w' => e = .returned (.tuple #[]) ∧ ∃ sv', FgW w w' t pm n base P K wr sv sv' S i := by
  have c5d : w.drew.cell? ⟨t, 5, none⟩ = some sv := (h.later (below_drew w)).c5
  have HD := hide (del_e w.drew base i (hs.later (below_drew w)).row hi hS)
  have HFg := hide (fun (w5 : World) (v : Value) (hd : DlW w.drew w5 base sv v S i) => fg_mk (h.later (below_drew w)) (hs.later (below_drew w)) hd)
  have HT := hide (trivial : True)
  obtain ⟨p, cap, rfl, h1, h2, h3⟩ := own_formC hs.row
  clear h hs h1 h2 h3 hi hS
  go_enter Tryz.func194, Tryz.ntmps194
  go_upto_region 0 with fail
  refine wp_region_held_drew (S := fun _ => True) (by kernel_rfl) trivial (fun hHeld => ?_)
  refine wpAnyH_take (i := 0) (v := .pointer (some ⟨t, 0, none⟩)) rfl (by kernel_rfl) (by kernel_rfl) (by kernel_rfl) (fun _ _ _ h => h) (Or.inl ⟨by rfl, fun V hV => by (try dsimp only at hV); go_simp⟩) hHeld ?_
  try simp only [Act.put, List.setIfInBounds_toArray]
  refine wpAnyH_take (i := 1) (v := .pointer (some ⟨t, 0, none⟩)) rfl (by kernel_rfl) (by kernel_rfl) (by kernel_rfl) (fun _ _ _ h => h) (Or.inl ⟨by rfl, fun V hV => by (try dsimp only at hV); go_simp⟩) hHeld ?_
  try simp only [Act.put]
  refine wpAnyH_take (i := 2) (v := .pointer (some ⟨t, 0, none⟩)) rfl (by kernel_rfl) (by kernel_rfl) (by kernel_rfl) (fun _ _ _ h => h) (Or.inl ⟨by rfl, fun V hV => by (try dsimp only at hV); go_simp⟩) hHeld ?_
  try simp only [Act.put]
  refine wpAnyH_take (i := 3) (v := .pointer (some ⟨t, 5, none⟩)) rfl (by kernel_rfl) (by kernel_rfl) (by kernel_rfl) (fun _ _ _ h => h) (Or.inl ⟨by rfl, fun V hV => by (try dsimp only at hV); go_simp⟩) hHeld ?_
  try simp only [Act.put]
  refine wpAnyH_take (i := 5) (v := .int .i64 (i : Int)) rfl (by kernel_rfl) (by kernel_rfl) (by kernel_rfl) (fun _ _ _ h => h) (Or.inl ⟨by rfl, fun V hV => by (try dsimp only at hV); go_simp⟩) hHeld ?_
  try simp only [Act.put]
  refine wpAnyH_take (i := 6) (v := .pointer (some ⟨t, 0, none⟩)) rfl (by kernel_rfl) (by kernel_rfl) (by kernel_rfl) (fun _ _ _ h => h) (Or.inl ⟨by rfl, fun V hV => by (try dsimp only at hV); go_simp⟩) hHeld ?_
  try simp only [Act.put]
  refine wpAnyH_take (i := 7) (v := .pointer (some ⟨t, 0, none⟩)) rfl (by kernel_rfl) (by kernel_rfl) (by kernel_rfl) (fun _ _ _ h => h) (Or.inl ⟨by rfl, fun V hV => by (try dsimp only at hV); go_simp⟩) hHeld ?_
  try simp only [Act.put]
  refine wpAnyH_take (i := 8) (v := .pointer (some ⟨t, 5, none⟩)) rfl (by kernel_rfl) (by kernel_rfl) (by kernel_rfl) (fun _ _ _ h => h) (Or.inl ⟨by rfl, fun V hV => by (try dsimp only at hV); go_simp⟩) hHeld ?_
  try simp only [Act.put]
  refine wpAnyH_ready (rs := [4, 9]) (by kernel_rfl) (by simp) ?_
  refine AllReadyH.cons rfl (fun KK hKK => ?_) (AllReadyH.cons rfl (fun KK hKK => ?_) AllReadyH.nil)
  · go_simp
    go_wp2_with fail
    refine hKK.out _ _ trivial (fun hHeld => ?_)
    clear hKK KK
    try simp only [Act.put, List.setIfInBounds_toArray, List.set_cons_zero, List.set_cons_succ]
    refine wpAnyH_ready (rs := [9]) (by kernel_rfl) (by simp) ?_
    refine AllReadyH.cons rfl (fun KK hKK => ?_) AllReadyH.nil
    go_simp
    go_wp2_with fail
    refine hKK.out _ _ trivial (fun hHeld => ?_)
    clear hKK KK
    try simp only [Act.put, List.setIfInBounds_toArray, List.set_cons_zero, List.set_cons_succ]
    refine wpAnyH_take (i := 10) (v := .int .i64 (S.length : Int)) rfl (by kernel_rfl) (by kernel_rfl) (by kernel_rfl) (fun _ _ _ h => h) (Or.inl ⟨by rfl, fun V hV => by (try dsimp only at hV); go_simp⟩) hHeld ?_
    try simp only [Act.put, List.setIfInBounds_toArray]
    refine wpAnyH_ready (rs := [11]) (by kernel_rfl) (by simp) ?_
    refine AllReadyH.cons rfl (fun KK hKK => ?_) AllReadyH.nil
    go_simp
    (go_at_call 249; (with_reducible refine Calls.mono HD.out ?_); rintro e w5 ⟨p5, k5, rfl, hd⟩; obtain ⟨c5w, f5w, hf⟩ := HFg.out _ _ hd; have HF5 := hide hf; clear hd hf)
    go_wp2_with fail
    refine hKK.out _ _ trivial (fun hHeld => ?_)
    clear hKK KK
    try simp only [Act.put, List.setIfInBounds_toArray, List.set_cons_zero, List.set_cons_succ]
    refine wpAnyH_take (i := 12) (v := .pointer (some ⟨t, 0, none⟩)) rfl (by kernel_rfl) (by kernel_rfl) (by kernel_rfl) (fun _ _ _ h => h) (Or.inl ⟨by rfl, fun V hV => by (try dsimp only at hV); go_simp⟩) hHeld ?_
    try simp only [Act.put, List.setIfInBounds_toArray]
    refine wpAnyH_take (i := 13) (v := .pointer (some ⟨t, 5, none⟩)) rfl (by kernel_rfl) (by kernel_rfl) (by kernel_rfl) (fun _ _ _ h => h) (Or.inl ⟨by rfl, fun V hV => by (try dsimp only at hV); go_simp⟩) hHeld ?_
    try simp only [Act.put]
    refine wpAnyH_ready (rs := [14]) (by kernel_rfl) (by simp) ?_
    refine AllReadyH.cons rfl (fun KK hKK => ?_) AllReadyH.nil
    go_simp
    go_wp2_with fail
    refine hKK.out _ _ trivial (fun hHeld => ?_)
    clear hKK KK
    try simp only [Act.put, List.setIfInBounds_toArray, List.set_cons_zero, List.set_cons_succ]
    refine wpAnyH_done (by kernel_rfl) ?_ _
    go_wp2
    all_goals go_end0
    exact ⟨rfl, _, ⟨HF5.out.tr, HF5.out.ss, Only.trans (Only.drew w _) HF5.out.on⟩⟩
  · go_simp
    go_wp2_with fail
    refine hKK.out _ _ trivial (fun hHeld => ?_)
    clear hKK KK
    try simp only [Act.put, List.setIfInBounds_toArray, List.set_cons_zero, List.set_cons_succ]
    refine wpAnyH_take (i := 10) (v := .int .i64 (S.length : Int)) rfl (by kernel_rfl) (by kernel_rfl) (by kernel_rfl) (fun _ _ _ h => h) (Or.inl ⟨by rfl, fun V hV => by (try dsimp only at hV); go_simp⟩) hHeld ?_
    try simp only [Act.put, List.setIfInBounds_toArray]
    refine wpAnyH_ready (rs := [4]) (by kernel_rfl) (by simp) ?_
    refine AllReadyH.cons rfl (fun KK hKK => ?_) AllReadyH.nil
    go_simp
    go_wp2_with fail
    refine hKK.out _ _ trivial (fun hHeld => ?_)
    clear hKK KK
    try simp only [Act.put, List.setIfInBounds_toArray, List.set_cons_zero, List.set_cons_succ]
    refine wpAnyH_ready (rs := [11]) (by kernel_rfl) (by simp) ?_
    refine AllReadyH.cons rfl (fun KK hKK => ?_) AllReadyH.nil
    go_simp
    (go_at_call 249; (with_reducible refine Calls.mono HD.out ?_); rintro e w5 ⟨p5, k5, rfl, hd⟩; obtain ⟨c5w, f5w, hf⟩ := HFg.out _ _ hd; have HF5 := hide hf; clear hd hf)
    go_wp2_with fail
    refine hKK.out _ _ trivial (fun hHeld => ?_)
    clear hKK KK
    try simp only [Act.put, List.setIfInBounds_toArray, List.set_cons_zero, List.set_cons_succ]
    refine wpAnyH_take (i := 12) (v := .pointer (some ⟨t, 0, none⟩)) rfl (by kernel_rfl) (by kernel_rfl) (by kernel_rfl) (fun _ _ _ h => h) (Or.inl ⟨by rfl, fun V hV => by (try dsimp only at hV); go_simp⟩) hHeld ?_
    try simp only [Act.put, List.setIfInBounds_toArray]
    refine wpAnyH_take (i := 13) (v := .pointer (some ⟨t, 5, none⟩)) rfl (by kernel_rfl) (by kernel_rfl) (by kernel_rfl) (fun _ _ _ h => h) (Or.inl ⟨by rfl, fun V hV => by (try dsimp only at hV); go_simp⟩) hHeld ?_
    try simp only [Act.put]
    refine wpAnyH_ready (rs := [14]) (by kernel_rfl) (by simp) ?_
    refine AllReadyH.cons rfl (fun KK hKK => ?_) AllReadyH.nil
    go_simp
    go_wp2_with fail
    refine hKK.out _ _ trivial (fun hHeld => ?_)
    clear hKK KK
    try simp only [Act.put, List.setIfInBounds_toArray, List.set_cons_zero, List.set_cons_succ]
    refine wpAnyH_done (by kernel_rfl) ?_ _
    go_wp2
    all_goals go_end0
    exact ⟨rfl, _, ⟨HF5.out.tr, HF5.out.ss, Only.trans (Only.drew w _) HF5.out.on⟩⟩
end Go.Proofs.YthgclfhfipfknaaGreat
