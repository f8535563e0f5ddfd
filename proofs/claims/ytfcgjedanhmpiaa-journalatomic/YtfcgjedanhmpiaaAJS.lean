/- Some answers that the document fixes: awake. -/
import Derived.Test.YtfcgjedanhmpiaaAJR
import Derived.Deep.RegionHeld3
import Derived.Deep.MidRow
namespace Go.Proofs.Ytfcgjedanhmpiaa
open Go.ChangeShapes Go.WideShapes Go.ChangeAt Go.RowKit
open Go.ChangeMaps (setBlock)
set_option linter.unusedVariables false

theorem wp_b67l {ops : Array Oper} {rest : List Oper} {o : Oper} {a : Act} {Q : Exit → Act → World → Prop} {w : World} {vals : List (Nat × Value)} {c : Array Value} (hf : Try.prog.built 67 vals = some c) (parts : List (Nat × Operand)) (hg : o.guard = none) (ho : o.op = .build 67 parts.toArray) (hv : parts.map (fun p => (p.1, a.eval p.2)) = vals)
    (hk : wpList Try.prog ops Q rest (a.put o.dst (.agg c)) w) : wpList Try.prog ops Q (o :: rest) a w :=
  wp_b67 hf parts.toArray hg ho (by rw [List.map_toArray]; exact hv) hk
theorem wp_bs22l {ops : Array Oper} {rest : List Oper} {o : Oper} {a : Act} {Q : Exit → Act → World → Prop} {w : World} {vals : List (Nat × Value)} {c : Array Value} {n : Nat} (hn : 0 < n ∧ n ≤ 1000) (hf : (Try.prog.info? 67).bind (fun ie => ie.zero.bind fun z => Instr.fill (fun i => some (i * ie.size, ie.size)) ((Array.range (n * ie.size)).map (z.cells[· % z.cells.size]!)) vals) = some c)
    (parts : List (Nat × Operand)) (hg : o.guard = none) (ho : o.op = .buildSlice 22 n parts.toArray) (hv : parts.map (fun p => (p.1, a.eval p.2)) = vals)
    (hk : wpList Try.prog ops Q rest (a.put o.dst (.slice (some ⟨w.heap.size, 0, none⟩) n n)) (w.alloc (.cells c 67))) : wpList Try.prog ops Q (o :: rest) a w :=
  wp_bs22 hn hf parts.toArray hg ho (by rw [List.map_toArray]; exact hv) hk
theorem grown_drew_then {w w' : World} (hg : w.drew.grownBy w' none) : w.grownBy w' none := grown_trans' (World.grownBy_drew w) hg
theorem range_of_blk2 {w : World} {b : Nat} {c : List Value} {t : TypeId} (hb : Blk w b c.toArray t) : w.rangeAt b 0 c := by
  have := range_of_blk hb
  simpa using this
theorem eql24 (V : World) (l : List UInt8) (h : l.length = 256) : (binOp .eql 24 (.agg (bcs l).toArray) (.agg (bcs l).toArray)).run Try.prog V = .ok (.bool true) V := by
  have := run_eql_bytes (P := Try.prog) (w := V) 24 5 256 Try.underlying24 Try.underlying5 (fun w => by kernel_rfl) l l h h
  rw [show (l == l) = true by simp] at this
  exact this
set_option maxHeartbeats 4000000 in
set_option maxRecDepth 20000 in
theorem awake_j (w : World) : Calls Try.prog 11 #[] w fun e w' => e = .returned (.bool true) ∧ Below w.heap.size w w' := by
  have HNw := hideJ (aw_new w)
  have HF1 : Hid (∀ V, Calls Try.prog 30 #[.int .u8 1] V fun e w' => e = .returned (.agg (bcs (fullL one8)).toArray) ∧ V.grownBy w' none) := fun V => full_j V one8
  have HF2 : Hid (∀ V, Calls Try.prog 30 #[.int .u8 2] V fun e w' => e = .returned (.agg (bcs (fullL two8)).toArray) ∧ V.grownBy w' none) := fun V => full_j V two8
  have HB1 := hideJ built1
  have HB2 := hideJ built2
  have HB4 := hideJ built4
  have HL2 := hideJ fill2
  have HL4 := hideJ fill4
  have HCa : Hid (∀ V, Aw w V (fr w) → Calls Try.prog 8 #[.pointer (some ⟨w.heap.size + 1, 0, none⟩), .int .i64 2, .slice (some ⟨V.heap.size, 0, none⟩) 2 2] (V.alloc (.cells cell2.toArray 67)) fun e w' => e = .returned (.int .i64 0) ∧ Aw2 w w') :=
    fun V h => cm_a w _ (h.grown (World.grownBy_alloc _ _ _)) _ _ (pages2 V)
  have HCb : Hid (∀ V, Aw2 w V → Calls Try.prog 8 #[.pointer (some ⟨w.heap.size + 1, 0, none⟩), .int .i64 4, .slice (some ⟨V.heap.size, 0, none⟩) 1 1] (V.alloc (.cells (pcl 4 z256).toArray 67)) fun e w' => e = .returned (.int .i64 2) ∧ V.grownBy w' none) :=
    fun V h => Calls.mono (cm_b w _ (h.grown (World.grownBy_alloc _ _ _)) _ _ (pages4 V)) (fun e w' h => ⟨h.1, grown_trans' (World.grownBy_alloc _ _ _) h.2⟩)
  have HPg := hideJ (fun V h => pg_a w V h)
  have HCt := hideJ (fun V h => ct_a w V h)
  have HHt := hideJ (fun V h => ht_a w V h)
  have HU := hideJ Try.underlying24
  have HSz : Hid ((Try.prog.info? 24).map (·.size) = some (bcs (fullL two8)).length) := by
    have := size24 (fullL_length two8)
    rw [List.size_toArray] at this
    exact this
  have HI := hideJ (size24 (fullL_length two8))
  have HZz : Hid ((bcs (fullL two8)).toArray.size = (bcs z256).toArray.size) := by show _ = _; rw [List.size_toArray, List.size_toArray, length_bcs, length_bcs, fullL_length, z256_length]
  have HAl := hideJ (bytes_all (fullL two8))
  have HNn := hideJ new24
  have heq : ∀ V, (binOp .eql 24 (.agg (bcs (fullL two8)).toArray) (.agg (bcs (fullL two8)).toArray)).run Try.prog V = .ok (.bool true) V := fun V => eql24 V _ (fullL_length _)
  generalize (pcl 1 (fullL one8)).toArray = p1 at HB1 HL2
  generalize (pcl 2 (fullL two8)).toArray = p2 at HB2 HL2
  generalize (pcl 4 z256).toArray = p4 at HB4 HL4 HCb
  generalize bcs (fullL one8) = c1 at HF1 HB1
  generalize bcs (fullL two8) = c2 at HF2 HB2 HPg HSz HI HZz HAl heq
  generalize cell2.toArray = cc at HL2 HCa
  generalize bcs z256 = cz at HZz HNn
  go_enter Try.func11, Try.ntmps11
  go_upto_region 5 with (first
    | (go_at_call 12; (with_reducible refine Calls.mono HNw.out ?_); rintro e w1 ⟨rfl, hg⟩; have HA1 := hideJ hg; clear hg)
    | (go_at_call 30; (with_reducible refine Calls.mono (HF1.out _) ?_); rintro e w2 ⟨rfl, hg⟩; have HA2 := hideJ (HA1.out.grown hg); clear hg)
    | (go_at_call 30; (with_reducible refine Calls.mono (HF2.out _) ?_); rintro e w3 ⟨rfl, hg⟩; have HA3 := hideJ (HA2.out.grown hg); clear hg)
    | ((with_reducible refine at67B ?_); first | refine wp_b67l HB1.out _ (by rfl) (by rfl) (by rfl) ?_ | refine wp_b67l HB2.out _ (by rfl) (by rfl) (by rfl) ?_ | refine wp_b67l HB4.out _ (by rfl) (by rfl) (by rfl) ?_)
    | ((with_reducible refine at22B ?_); first | refine wp_bs22l (by decide) HL2.out _ (by rfl) (by rfl) (by rfl) ?_ | refine wp_bs22l (by decide) HL4.out _ (by rfl) (by rfl) (by rfl) ?_)
    | (go_at_call 8; (with_reducible refine Calls.mono (HCa.out _ HA3.out) ?_); rintro e w4 ⟨rfl, hg⟩; have HA4 := hideJ hg; clear hg)
    | (go_at_call 6; (with_reducible refine Calls.mono (HPg.out _ HA4.out) ?_); rintro e w5 ⟨rfl, hg⟩; have HA5 := hideJ (HA4.out.grown hg); clear hg)
    | ((with_reducible refine at24S ?_); refine wp_storeB (c := c2.toArray) HI.out HZz.out HAl.out (HNn.out _) _ _ (by rfl) (by rfl) (by rfl) (by rfl) ?_; intro W5 hb5 ho5; have HB5 := hideJ hb5; have HA5' := hideJ (HA5.out.grown (grown_only (World.grownBy_alloc _ _ _) ho5 (Nat.le_refl _))); clear hb5 ho5)
    | (go_at_call 8; (with_reducible refine Calls.mono (HCb.out _ HA5'.out) ?_); rintro e w6 ⟨rfl, hg⟩; have HA6 := hideJ (HA5'.out.grown hg); have HB6 := hideJ (Blk.grown HB5.out hg); clear hg))
  obtain ⟨g, hgg⟩ : ∃ g, g = w5.heap.size := ⟨_, rfl⟩
  rw [← hgg] at HB6 ⊢
  have HS5 : Hid (w6.drew.rangeAt g 0 c2) := range_of_blk2 (Blk.grown HB6.out (World.grownBy_drew _))
  refine wp_region_held_drew (S := fun V => V.rangeAt g 0 c2) (by kernel_rfl) HS5.out (fun hHeld => ?_)
  refine wpAnyH_take (i := 0) (v := .int .i64 0) rfl (by kernel_rfl) (by kernel_rfl) (by kernel_rfl) (fun _ _ _ h => h) (Or.inl ⟨by rfl, fun V hV => by go_simp⟩) hHeld ?_
  try simp only [Act.put, List.getElem_toArray, List.getElem_cons_zero, List.setIfInBounds_toArray, List.set_cons_zero, List.set_cons_succ]
  refine wpAnyH_take (i := 1) (v := .bool true) rfl (by kernel_rfl) (by kernel_rfl) (by kernel_rfl) (fun _ _ _ h => h) (Or.inl ⟨by rfl, fun V hV => by go_simp⟩) hHeld ?_
  try simp only [Act.put, List.getElem_toArray, List.getElem_cons_succ, List.getElem_cons_zero, List.setIfInBounds_toArray, List.set_cons_zero, List.set_cons_succ]
  refine wpAnyH_take (i := 2) (v := .bool true) rfl (by kernel_rfl) (by kernel_rfl) (by kernel_rfl) (fun _ _ _ h => h) (Or.inl ⟨by rfl, fun V hV => by go_simp⟩) hHeld ?_
  try simp only [Act.put, List.getElem_toArray, List.getElem_cons_succ, List.getElem_cons_zero, List.setIfInBounds_toArray, List.set_cons_zero, List.set_cons_succ]
  refine wpAnyH_take (i := 3) (v := .int .i64 0) rfl (by kernel_rfl) (by kernel_rfl) (by kernel_rfl) (fun _ _ _ h => h) (Or.inl ⟨by rfl, fun V hV => by go_simp⟩) hHeld ?_
  try simp only [Act.put, List.getElem_toArray, List.getElem_cons_succ, List.getElem_cons_zero, List.setIfInBounds_toArray, List.set_cons_zero, List.set_cons_succ]
  refine wpAnyH_take (i := 4) (v := .bool true) rfl (by kernel_rfl) (by kernel_rfl) (by kernel_rfl) (fun _ _ _ h => h) (Or.inl ⟨by rfl, fun V hV => by go_simp⟩) hHeld ?_
  try simp only [Act.put, List.getElem_toArray, List.getElem_cons_succ, List.getElem_cons_zero, List.setIfInBounds_toArray, List.set_cons_zero, List.set_cons_succ]
  refine wpAnyH_take (i := 5) (v := .bool true) rfl (by kernel_rfl) (by kernel_rfl) (by kernel_rfl) (fun _ _ _ h => h) (Or.inl ⟨by rfl, fun V hV => by go_simp⟩) hHeld ?_
  try simp only [Act.put, List.getElem_toArray, List.getElem_cons_succ, List.getElem_cons_zero, List.setIfInBounds_toArray, List.set_cons_zero, List.set_cons_succ]
  refine wpAnyH_take (i := 6) (v := .bool true) rfl (by kernel_rfl) (by kernel_rfl) (by kernel_rfl) (fun _ _ _ h => h) (Or.inl ⟨by rfl, fun V hV => by go_simp⟩) hHeld ?_
  try simp only [Act.put, List.getElem_toArray, List.getElem_cons_succ, List.getElem_cons_zero, List.setIfInBounds_toArray, List.set_cons_zero, List.set_cons_succ]
  refine wpAnyH_take (i := 7) (v := .agg c2.toArray) rfl (by kernel_rfl) (by kernel_rfl) (by kernel_rfl) (fun _ _ _ h => h) (yieldsIf_load_mid (by rfl) _ _ rfl _ _ rfl _ _ (fun V hV => hV) HU.out rfl HSz.out) hHeld ?_
  try simp only [Act.put, List.getElem_toArray, List.getElem_cons_succ, List.getElem_cons_zero, List.setIfInBounds_toArray, List.set_cons_zero, List.set_cons_succ]
  refine wpAnyH_ready (rs := [8]) (by kernel_rfl) (by simp) ?_
  refine AllReadyH.cons rfl (fun K hK => ?_) AllReadyH.nil
  go_simp
  go_at_call 30; (with_reducible refine Calls.mono (HF2.out _) ?_); rintro e w7 ⟨rfl, hg⟩; have HA7 := hideJ (HA6.out.grown (grown_drew_then hg)); have HB7 := hideJ (Blk.grown HB6.out (grown_drew_then hg)); clear hg
  go_wp2_with fail
  refine hK.out _ _ (range_of_blk2 HB7.out) (fun hHeld => ?_)
  clear hK K
  try simp only [Act.put, List.getElem_toArray, List.getElem_cons_succ, List.getElem_cons_zero, List.setIfInBounds_toArray, List.set_cons_zero, List.set_cons_succ]
  refine wpAnyH_take (i := 9) (v := .bool true) rfl (by kernel_rfl) (by kernel_rfl) (by kernel_rfl) (fun _ _ _ h => h) (Or.inl ⟨by rfl, fun V hV => by go_simp⟩) hHeld ?_
  try simp only [Act.put, List.getElem_toArray, List.getElem_cons_succ, List.getElem_cons_zero, List.setIfInBounds_toArray, List.set_cons_zero, List.set_cons_succ]
  refine wpAnyH_take (i := 10) (v := .bool true) rfl (by kernel_rfl) (by kernel_rfl) (by kernel_rfl) (fun _ _ _ h => h) (Or.inl ⟨by rfl, fun V hV => by go_simp⟩) hHeld ?_
  try simp only [Act.put, List.getElem_toArray, List.getElem_cons_succ, List.getElem_cons_zero, List.setIfInBounds_toArray, List.set_cons_zero, List.set_cons_succ]
  refine wpAnyH_take (i := 11) (v := .bool true) rfl (by kernel_rfl) (by kernel_rfl) (by kernel_rfl) (fun _ _ _ h => h) (Or.inl ⟨by rfl, fun V hV => by go_simp⟩) hHeld ?_
  try simp only [Act.put, List.getElem_toArray, List.getElem_cons_succ, List.getElem_cons_zero, List.setIfInBounds_toArray, List.set_cons_zero, List.set_cons_succ]
  refine wpAnyH_take (i := 12) (v := .int .i64 2) rfl (by kernel_rfl) (by kernel_rfl) (by kernel_rfl) (fun _ _ _ h => h) (Or.inl ⟨by rfl, fun V hV => by go_simp⟩) hHeld ?_
  try simp only [Act.put, List.getElem_toArray, List.getElem_cons_succ, List.getElem_cons_zero, List.setIfInBounds_toArray, List.set_cons_zero, List.set_cons_succ]
  refine wpAnyH_take (i := 13) (v := .bool true) rfl (by kernel_rfl) (by kernel_rfl) (by kernel_rfl) (fun _ _ _ h => h) (Or.inl ⟨by rfl, fun V hV => by go_simp⟩) hHeld ?_
  try simp only [Act.put, List.getElem_toArray, List.getElem_cons_succ, List.getElem_cons_zero, List.setIfInBounds_toArray, List.set_cons_zero, List.set_cons_succ]
  refine wpAnyH_take (i := 14) (v := .bool true) rfl (by kernel_rfl) (by kernel_rfl) (by kernel_rfl) (fun _ _ _ h => h) (Or.inl ⟨by rfl, fun V hV => by go_simp⟩) hHeld ?_
  try simp only [Act.put, List.getElem_toArray, List.getElem_cons_succ, List.getElem_cons_zero, List.setIfInBounds_toArray, List.set_cons_zero, List.set_cons_succ]
  refine wpAnyH_take (i := 15) (v := .bool true) rfl (by kernel_rfl) (by kernel_rfl) (by kernel_rfl) (fun _ _ _ h => h) (Or.inl ⟨by rfl, fun V hV => by go_simp⟩) hHeld ?_
  try simp only [Act.put, List.getElem_toArray, List.getElem_cons_succ, List.getElem_cons_zero, List.setIfInBounds_toArray, List.set_cons_zero, List.set_cons_succ]
  refine wpAnyH_take (i := 16) (v := .pointer (some ⟨w.heap.size + 1, 0, none⟩)) rfl (by kernel_rfl) (by kernel_rfl) (by kernel_rfl) (fun _ _ _ h => h) (Or.inl ⟨by rfl, fun V hV => by go_simp⟩) hHeld ?_
  try simp only [Act.put, List.getElem_toArray, List.getElem_cons_succ, List.getElem_cons_zero, List.setIfInBounds_toArray, List.set_cons_zero, List.set_cons_succ]
  refine wpAnyH_ready (rs := [17]) (by kernel_rfl) (by simp) ?_
  refine AllReadyH.cons rfl (fun K hK => ?_) AllReadyH.nil
  go_simp
  go_at_call 9; (with_reducible refine Calls.mono (HCt.out _ HA7.out) ?_); rintro e w8 ⟨rfl, hg⟩; have HA8 := hideJ (HA7.out.grown hg); have HB8 := hideJ (Blk.grown HB7.out hg); clear hg
  go_wp2_with fail
  refine hK.out _ _ (range_of_blk2 HB8.out) (fun hHeld => ?_)
  clear hK K
  try simp only [Act.put, List.getElem_toArray, List.getElem_cons_succ, List.getElem_cons_zero, List.setIfInBounds_toArray, List.set_cons_zero, List.set_cons_succ]
  refine wpAnyH_take (i := 18) (v := .bool true) rfl (by kernel_rfl) (by kernel_rfl) (by kernel_rfl) (fun _ _ _ h => h) (Or.inl ⟨by rfl, fun V hV => by go_simp⟩) hHeld ?_
  try simp only [Act.put, List.getElem_toArray, List.getElem_cons_succ, List.getElem_cons_zero, List.setIfInBounds_toArray, List.set_cons_zero, List.set_cons_succ]
  refine wpAnyH_take (i := 19) (v := .bool true) rfl (by kernel_rfl) (by kernel_rfl) (by kernel_rfl) (fun _ _ _ h => h) (Or.inl ⟨by rfl, fun V hV => by go_simp⟩) hHeld ?_
  try simp only [Act.put, List.getElem_toArray, List.getElem_cons_succ, List.getElem_cons_zero, List.setIfInBounds_toArray, List.set_cons_zero, List.set_cons_succ]
  refine wpAnyH_take (i := 20) (v := .bool true) rfl (by kernel_rfl) (by kernel_rfl) (by kernel_rfl) (fun _ _ _ h => h) (Or.inl ⟨by rfl, fun V hV => by go_simp⟩) hHeld ?_
  try simp only [Act.put, List.getElem_toArray, List.getElem_cons_succ, List.getElem_cons_zero, List.setIfInBounds_toArray, List.set_cons_zero, List.set_cons_succ]
  refine wpAnyH_take (i := 21) (v := .pointer (some ⟨w.heap.size + 1, 0, none⟩)) rfl (by kernel_rfl) (by kernel_rfl) (by kernel_rfl) (fun _ _ _ h => h) (Or.inl ⟨by rfl, fun V hV => by go_simp⟩) hHeld ?_
  try simp only [Act.put, List.getElem_toArray, List.getElem_cons_succ, List.getElem_cons_zero, List.setIfInBounds_toArray, List.set_cons_zero, List.set_cons_succ]
  refine wpAnyH_ready (rs := [22]) (by kernel_rfl) (by simp) ?_
  refine AllReadyH.cons rfl (fun K hK => ?_) AllReadyH.nil
  go_simp
  go_at_call 10; (with_reducible refine Calls.mono (HHt.out _ HA8.out) ?_); rintro e w9 ⟨rfl, hg⟩; have HA9 := hideJ (HA8.out.grown hg); have HB9 := hideJ (Blk.grown HB8.out hg); clear hg
  go_wp2_with fail
  refine hK.out _ _ (range_of_blk2 HB9.out) (fun hHeld => ?_)
  clear hK K
  try simp only [Act.put, List.getElem_toArray, List.getElem_cons_succ, List.getElem_cons_zero, List.setIfInBounds_toArray, List.set_cons_zero, List.set_cons_succ]
  refine wpAnyH_take (i := 23) (v := .bool true) rfl (by kernel_rfl) (by kernel_rfl) (by kernel_rfl) (fun _ _ _ h => h) (Or.inl ⟨by rfl, fun V hV => by go_simp⟩) hHeld ?_
  try simp only [Act.put, List.getElem_toArray, List.getElem_cons_succ, List.getElem_cons_zero, List.setIfInBounds_toArray, List.set_cons_zero, List.set_cons_succ]
  refine wpAnyH_take (i := 24) (v := .bool true) rfl (by kernel_rfl) (by kernel_rfl) (by kernel_rfl) (fun _ _ _ h => h) (Or.inl ⟨by rfl, fun V hV => by go_simp⟩) hHeld ?_
  try simp only [Act.put, List.getElem_toArray, List.getElem_cons_succ, List.getElem_cons_zero, List.setIfInBounds_toArray, List.set_cons_zero, List.set_cons_succ]
  refine wpAnyH_take (i := 25) (v := .bool true) rfl (by kernel_rfl) (by kernel_rfl) (by kernel_rfl) (fun _ _ _ h => h) (Or.inl ⟨by rfl, fun V hV => by go_simp⟩) hHeld ?_
  try simp only [Act.put, List.getElem_toArray, List.getElem_cons_succ, List.getElem_cons_zero, List.setIfInBounds_toArray, List.set_cons_zero]
  refine wpAnyH_done (by kernel_rfl) ?_ _
  go_wp2_with fail
  go_ret
  exact ⟨rfl, HA9.out.bel⟩
end Go.Proofs.Ytfcgjedanhmpiaa
