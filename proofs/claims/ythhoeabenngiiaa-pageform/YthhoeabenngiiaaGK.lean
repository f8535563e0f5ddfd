/- What a page tells; a piece of its cells. -/
import Derived.Test.YthhoeabenngiiaaGJ
import Derived.Deep.MidRow
namespace Go.Proofs.Ythhoeabenngiiaa
open Go.ChangeShapes Go.WideShapes Go.ChangeAt Go.RowKit
set_option linter.unusedVariables false

/-- The same as steps of a region that draws. -/
theorem step_loadP {ops : Array Oper} {o : Oper} {a : Act} {w : World} {K : Act → World → Prop} {Q : Exit → Act → World → Prop} {E : Prop} {g : Nat} {l : List UInt8} (hl : l.length = 256) (hg : PAt w g l) (x : Operand)
    (hgd : o.guard = none) (ho : o.op = .load 23 x) (hx : a.eval x = .pointer (some ⟨g, 0, none⟩)) (hK : K (a.put o.dst (.agg (bc l))) w) : if Region.wanted o (yielded ops a.tmps) = true then Oper.wp Try.prog o a w K Q else E := by
  have hw : Region.wanted o (yielded ops a.tmps) = true := by simp [Region.wanted, hgd]
  rw [if_pos hw]
  exact wp_load_row 23 x ho g hx 23 (bc l) (0, 0) _ hg page_arr rfl (page_size hl) hK

/-- A piece of a page's bytes. -/
def sub (l : List UInt8) (a n : Nat) : List UInt8 := (l.drop a).take n
theorem sub_length {l : List UInt8} {a n : Nat} (h : a + n ≤ l.length) : (sub l a n).length = n := by simp [sub]; omega
theorem sub_byt {l : List UInt8} {a n j : Nat} (h : j < n) : byt (sub l a n) j = byt l (a + j) := by
  simp [byt, sub, h, List.getElem?_drop]
def subS (l : List UInt8) (a n : Nat) : ByteArray := ⟨(sub l a n).toArray⟩
theorem conv_page {W : World} {g : Nat} {l : List UInt8} (hl : l.length = 256) (hg : PAt W g l) (x a n cap : Nat) (h : a + n ≤ 256) (hx : n = 0 ∨ x = a) : (convert 60 9 (.slice (some ⟨g, x, none⟩) n cap)).run Try.prog W = .ok (.string (subS l a n)) W := by
  have hn := sub_length (l := l) (a := a) (n := n) (by omega)
  have := conv_piece W g x cap (sub l a n) (fun j hj => by
    rw [hn] at hj
    rcases hx with h0 | rfl
    · omega
    · rw [sub_byt hj]; exact hg.cell (by omega))
  rw [hn] at this
  exact this
theorem step_convP {ops : Array Oper} {o : Oper} {a : Act} {w : World} {K : Act → World → Prop} {Q : Exit → Act → World → Prop} {E : Prop} {g : Nat} {l : List UInt8} (hl : l.length = 256) (hg : PAt w g l) (xx aa n cap : Nat) (h : aa + n ≤ 256) (hxx : n = 0 ∨ xx = aa) (x : Operand)
    (hgd : o.guard = none) (ho : o.op = .convert 60 9 x) (hx : a.eval x = .slice (some ⟨g, xx, none⟩) n cap) (hK : K (a.put o.dst (.string (subS l aa n))) w) : if Region.wanted o (yielded ops a.tmps) = true then Oper.wp Try.prog o a w K Q else E := by
  have hw : Region.wanted o (yielded ops a.tmps) = true := by simp [Region.wanted, hgd]
  rw [if_pos hw]
  unfold Oper.wp execOp
  simp only [ho, hx, Sem.run_bind, Sem.run_pure, Result.andThen_ok, conv_page hl hg xx aa n cap h hxx]
  exact hK
theorem cut_page' (g : Nat) {x y : Int} (a n : Nat) (hx : x = (a : Int)) (hy : y = (a : Int) + (n : Int)) (h : a + n ≤ 256) :
    ∃ x', (∀ W, (Instr.sliceAt 23 (.pointer (some ⟨g, 0, none⟩)) (some (.int .i64 x)) (some (.int .i64 y)) none).run Try.prog W = .ok (.slice (some ⟨g, x', none⟩) n (256 - a)) W) ∧ (n = 0 ∨ x' = a) := by
  by_cases ha : a < 256
  · exact ⟨a, fun W => cut_page W g a n hx hy h ha, .inr rfl⟩
  · obtain rfl : a = 256 := by omega
    obtain rfl : n = 0 := by omega
    subst hx hy
    refine ⟨0, fun W => ?_, .inl rfl⟩
    rw [run_sliceAt_array_lh W 23 ⟨g, 0, none⟩ (by rw [page_arrl, page_elem]; exact page_arr) .i64 .i64 _ _ (by omega) (by omega) (by rw [page_arrl]; omega), page_elem, size5, page_arrl]
    rfl

/-- Where the bytes of a cell begin. -/
def stN (l : List UInt8) (i : Nat) : Nat := 6 + byt l 1 + sm l i
theorem sm_mono (l : List UInt8) {i j : Nat} (h : i ≤ j) : sm l i ≤ sm l j := by
  induction j with
  | zero => obtain rfl : i = 0 := by omega
            exact Nat.le_refl _
  | succ n ih =>
    by_cases e : i = n + 1
    · subst e; exact Nat.le_refl _
    · simp only [sm]; exact Nat.le_trans (ih (by omega)) (Nat.le_add_right _ _)
theorem stN_mono (l : List UInt8) {i j : Nat} (h : i ≤ j) : stN l i ≤ stN l j := by have := sm_mono l h; unfold stN; omega

theorem PAt.range {w : World} {g : Nat} {l : List UInt8} (h : PAt w g l) : w.rangeAt g 0 (bcl l) := by
  intro j v hv
  rw [Nat.zero_add, cell_of_row w g j _ _ _ h]
  simpa [bc] using hv
theorem conv_range {W : World} {g : Nat} {l : List UInt8} (hl : l.length = 256) (hg : W.rangeAt g 0 (bcl l)) (x a n cap : Nat) (h : a + n ≤ 256) (hx : n = 0 ∨ x = a) : (convert 60 9 (.slice (some ⟨g, x, none⟩) n cap)).run Try.prog W = .ok (.string (subS l a n)) W := by
  have hn := sub_length (l := l) (a := a) (n := n) (by omega)
  have := conv_piece W g x cap (sub l a n) (fun j hj => by
    rw [hn] at hj
    rcases hx with h0 | rfl
    · omega
    · rw [sub_byt hj]
      have hk : x + j < l.length := by omega
      have := hg (x + j) (.int .u8 (byt l (x + j) : Int)) (by simp [bcl, byt, hk])
      rwa [Nat.zero_add] at this)
  rw [hn] at this
  exact this

set_option maxHeartbeats 2000000 in
theorem part_walk (l : List UInt8) (hl : l.length = 256) (i j : Nat) (hij : i ≤ j) (hj : j ≤ 250) (he : stN l j ≤ 256) (w : World) :
    Calls Try.prog 33 #[.agg (bc l), .int .i64 (i : Int), .int .i64 (j : Int)] w fun e w' => e = .returned (.agg #[.string (subS l (6 + i) (j - i)), .string (subS l (stN l i) (stN l j - stN l i))]) ∧ Below w.heap.size w w' := by
  have hm := stN_mono l hij
  have e1 : IntKind.i64.wrap (6 + (i : Int)) = 6 + (i : Int) := by rw [IntKind.wrap_i64]; omega
  have e2 : IntKind.i64.wrap (6 + (j : Int)) = 6 + (j : Int) := by rw [IntKind.wrap_i64]; omega
  obtain ⟨x1, hs1, hx1⟩ := cut_page' w.heap.size (x := 6 + (i : Int)) (y := 6 + (j : Int)) (6 + i) (j - i) (by omega) (by omega) (by omega)
  obtain ⟨x2, hs2, hx2⟩ := cut_page' w.heap.size (x := 6 + (byt l 1 : Int) + (sm l i : Int)) (y := 6 + (byt l 1 : Int) + (sm l j : Int)) (stN l i) (stN l j - stN l i) (by unfold stN; omega) (by unfold stN at *; omega) (by omega)
  have hv1 : ∀ V : World, V.rangeAt w.heap.size 0 (bcl l) → (convert 60 9 (.slice (some ⟨w.heap.size, x1, none⟩) (j - i) (256 - (6 + i)))).run Try.prog V = .ok (.string (subS l (6 + i) (j - i))) V := fun V h => conv_range hl h _ _ _ _ (by omega) hx1
  have hv2 : ∀ V : World, V.rangeAt w.heap.size 0 (bcl l) → (convert 60 9 (.slice (some ⟨w.heap.size, x2, none⟩) (stN l j - stN l i) (256 - stN l i))).run Try.prog V = .ok (.string (subS l (stN l i) (stN l j - stN l i))) V := fun V h => conv_range hl h _ _ _ _ (by omega) hx2
  have hu := page_arr
  have hi : (Try.prog.info? 23).map (·.size) = some (bcl l).length := page_size hl
  have HS1 : Hid (∀ V, Calls Try.prog 30 #[.agg (bcl l).toArray, .int .i64 (i : Int)] V fun e w' => e = .returned (.int .i64 ((6 + byt l 1 + sm l i : Nat) : Int)) ∧ Below V.heap.size V w') := fun V => start_walk l hl i (by omega) V
  have HS2 : Hid (∀ V, Calls Try.prog 30 #[.agg (bcl l).toArray, .int .i64 (j : Int)] V fun e w' => e = .returned (.int .i64 ((6 + byt l 1 + sm l j : Nat) : Int)) ∧ Below V.heap.size V w') := fun V => start_walk l hl j hj V
  have HP : Hid (PAt ((w.alloc (.cells (bc l) 23)).alloc (.cells #[.string ⟨#[]⟩, .string ⟨#[]⟩] 64)) w.heap.size l) := (PAt.new w l).later (new_below _ _ rfl)
  have HK : Hid (∀ V, Below ((w.alloc (.cells (bc l) 23)).alloc (.cells #[.string ⟨#[]⟩, .string ⟨#[]⟩] 64)).drew.heap.size ((w.alloc (.cells (bc l) 23)).alloc (.cells #[.string ⟨#[]⟩, .string ⟨#[]⟩] 64)).drew V → V.heap[w.heap.size + 1]? = some (.cells #[.string ⟨#[]⟩, .string ⟨#[]⟩] 64 (0, 0)) ∧ Below w.heap.size w V) := fun V h => by
    have hb := below_trans (Below.refl _ ((w.alloc (.cells (bc l) 23)).alloc (.cells #[.string ⟨#[]⟩, .string ⟨#[]⟩] 64))).drew h
    refine ⟨?_, below_trans (below_trans (new_below w _ rfl) (new_below _ _ rfl)) hb⟩
    rw [hb.block _ (by simp)]
    exact heap_alloc2_new w _ _
  have HD : Hid (∀ V, Below ((w.alloc (.cells (bc l) 23)).alloc (.cells #[.string ⟨#[]⟩, .string ⟨#[]⟩] 64)).drew.heap.size ((w.alloc (.cells (bc l) 23)).alloc (.cells #[.string ⟨#[]⟩, .string ⟨#[]⟩] 64)).drew V → V.rangeAt w.heap.size 0 (bcl l) ∧ V.cell? ⟨w.heap.size + 1, 0, none⟩ = some (.string ⟨#[]⟩) ∧ V.cell? ⟨w.heap.size + 1, 1, none⟩ = some (.string ⟨#[]⟩) ∧ V.frozen? ⟨w.heap.size + 1, 0, none⟩ = false ∧ V.frozen? ⟨w.heap.size + 1, 1, none⟩ = false) := fun V h => by
    have hb := below_trans (Below.refl _ ((w.alloc (.cells (bc l) 23)).alloc (.cells #[.string ⟨#[]⟩, .string ⟨#[]⟩] 64))).drew h
    have hk := (HK.out V h).1
    exact ⟨(HP.out.later hb).range, by rw [cell_of_row _ _ _ _ _ _ hk]; rfl, by rw [cell_of_row _ _ _ _ _ _ hk]; rfl, by simp [World.frozen?, hk], by simp [World.frozen?, hk]⟩
  clear hl hij hj he hm hx1 hx2
  go_enter Try.func33, Try.ntmps33
  go_wp2
  refine wp_region_held_drew (S := fun V => V.rangeAt w.heap.size 0 (bcl l)) (by kernel_rfl) (HD.out _ (Below.refl _ _)).1 (fun hHeld => ?_)
  refine wpAnyH_take (i := 0) (v := .int .i64 (i : Int)) rfl (by kernel_rfl) (by kernel_rfl) (by kernel_rfl) (fun _ _ _ h => h) (Or.inl ⟨by rfl, fun V hV => by (dsimp only at hV; go_simp)⟩) hHeld ?_
  simp only [Act.put, List.setIfInBounds_toArray]
  refine wpAnyH_take (i := 1) (v := .int .i64 (6 + (i : Int))) rfl (by kernel_rfl) (by kernel_rfl) (by kernel_rfl) (fun _ _ _ h => h) (Or.inl ⟨by rfl, fun V hV => by (dsimp only at hV; go_simp)⟩) hHeld ?_
  simp only [Act.put]
  refine wpAnyH_take (i := 2) (v := .int .i64 (j : Int)) rfl (by kernel_rfl) (by kernel_rfl) (by kernel_rfl) (fun _ _ _ h => h) (Or.inl ⟨by rfl, fun V hV => by (dsimp only at hV; go_simp)⟩) hHeld ?_
  simp only [Act.put]
  refine wpAnyH_take (i := 3) (v := .int .i64 (6 + (j : Int))) rfl (by kernel_rfl) (by kernel_rfl) (by kernel_rfl) (fun _ _ _ h => h) (Or.inl ⟨by rfl, fun V hV => by (dsimp only at hV; go_simp)⟩) hHeld ?_
  simp only [Act.put]
  refine wpAnyH_take (i := 4) (v := .slice (some ⟨w.heap.size, x1, none⟩) (j - i) (256 - (6 + i))) rfl (by kernel_rfl) (by kernel_rfl) (by kernel_rfl) (fun _ _ _ h => h) (Or.inl ⟨by rfl, fun V hV => by (dsimp only at hV; go_simp)⟩) hHeld ?_
  simp only [Act.put]
  refine wpAnyH_take (i := 5) (v := .string (subS l (6 + i) (j - i))) rfl (by kernel_rfl) (by kernel_rfl) (by kernel_rfl) (fun _ _ _ h => h) (Or.inl ⟨by rfl, fun V hV => by (dsimp only at hV; go_simp)⟩) hHeld ?_
  simp only [Act.put]
  refine wpAnyH_take (i := 6) (v := .agg (bcl l).toArray) rfl (by kernel_rfl) (by kernel_rfl) (by kernel_rfl) (fun _ _ _ h => h) (yieldsIf_load_mid (by rfl) _ _ rfl _ _ rfl _ _ (fun V hV => hV) hu rfl hi) hHeld ?_
  simp only [Act.put]
  refine wpAnyH_take (i := 7) (v := .int .i64 (i : Int)) rfl (by kernel_rfl) (by kernel_rfl) (by kernel_rfl) (fun _ _ _ h => h) (Or.inl ⟨by rfl, fun V hV => by (dsimp only at hV; go_simp)⟩) hHeld ?_
  simp only [Act.put]
  refine wpAnyH_take (i := 9) (v := .agg (bcl l).toArray) rfl (by kernel_rfl) (by kernel_rfl) (by kernel_rfl) (fun _ _ _ h => h) (yieldsIf_load_mid (by rfl) _ _ rfl _ _ rfl _ _ (fun V hV => hV) hu rfl hi) hHeld ?_
  simp only [Act.put]
  refine wpAnyH_take (i := 10) (v := .int .i64 (j : Int)) rfl (by kernel_rfl) (by kernel_rfl) (by kernel_rfl) (fun _ _ _ h => h) (Or.inl ⟨by rfl, fun V hV => by (dsimp only at hV; go_simp)⟩) hHeld ?_
  simp only [Act.put]
  refine wpAnyH_ready (rs := [8]) (by kernel_rfl) (by simp) ?_
  refine AllReadyH.cons rfl (fun K hK => ?_) AllReadyH.nil
  go_simp
  go_at_call 30; with_reducible refine Calls.mono (HS1.out _) ?_; rintro e w3 ⟨rfl, hb3⟩; have HX3 := hide hb3; clear hb3
  go_wp2_with fail
  refine hK.out _ _ (HD.out _ HX3.out).1 (fun hHeld => ?_)
  clear hK K
  try simp only [Act.put, List.setIfInBounds_toArray, List.set_cons_zero, List.set_cons_succ]
  refine wpAnyH_ready (rs := [11]) (by kernel_rfl) (by simp) ?_
  refine AllReadyH.cons rfl (fun K hK => ?_) AllReadyH.nil
  go_simp
  go_at_call 30; with_reducible refine Calls.mono (HS2.out _) ?_; rintro e w4 ⟨rfl, hb4⟩; have HX4 := hide (below_trans HX3.out hb4); clear hb4
  go_wp2_with fail
  refine hK.out _ _ (HD.out _ HX4.out).1 (fun hHeld => ?_)
  clear hK K
  try simp only [Act.put, List.setIfInBounds_toArray, List.set_cons_zero, List.set_cons_succ]
  refine wpAnyH_take (i := 12) (v := .slice (some ⟨w.heap.size, x2, none⟩) (stN l j - stN l i) (256 - stN l i)) rfl (by kernel_rfl) (by kernel_rfl) (by kernel_rfl) (fun _ _ _ h => h) (Or.inl ⟨by rfl, fun V hV => by (dsimp only at hV; go_simp)⟩) hHeld ?_
  simp only [Act.put, List.setIfInBounds_toArray]
  refine wpAnyH_take (i := 13) (v := .string (subS l (stN l i) (stN l j - stN l i))) rfl (by kernel_rfl) (by kernel_rfl) (by kernel_rfl) (fun _ _ _ h => h) (Or.inl ⟨by rfl, fun V hV => by (dsimp only at hV; go_simp)⟩) hHeld ?_
  simp only [Act.put]
  refine wpAnyH_take (i := 14) (v := .agg #[.string (subS l (6 + i) (j - i)), .string (subS l (stN l i) (stN l j - stN l i))]) rfl (by kernel_rfl) (by kernel_rfl) (by kernel_rfl) (fun _ _ _ h => h) (Or.inl ⟨by rfl, fun V hV => by (dsimp only at hV; go_simp)⟩) hHeld ?_
  simp only [Act.put]
  obtain ⟨hV0, hV1, hV2, hV3, hV4⟩ := HD.out _ HX4.out
  refine wpAnyH_ready (rs := [15]) (by kernel_rfl) (by simp) ?_
  refine AllReadyH.cons rfl (fun K hK => ?_) AllReadyH.nil
  go_simp
  refine hK.out _ _ ?_ (fun hHeld => ?_)
  · refine PAt.range ?_
    show _ = _
    rw [Below.heap_setCell _ _ _ _ (by simp), Below.heap_setCell _ _ _ _ (by simp)]
    exact HP.out.later (below_trans (Below.refl _ _).drew HX4.out)
  clear hK K
  refine wpAnyH_done (by kernel_rfl) ?_ _
  have HK4 := hide (set_block (set_block (HK.out _ HX4.out).1 0 (.string (subS l (6 + i) (j - i)))) 1 (.string (subS l (stN l i) (stN l j - stN l i))))
  have HB4 := hide (HK.out _ HX4.out).2
  go_wp2_with fail
  exact ret_run Try.results33 rfl (by simpa using HK4.out) ⟨rfl, (HB4.out.setCell (by simp) _).setCell (by simp) _⟩
end Go.Proofs.Ythhoeabenngiiaa
