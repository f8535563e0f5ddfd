/- Which pages may be. -/
/- What a page tells; a piece of its cells. -/
/- What a page tells: its kind, count, link, room; its cells. -/
/- Plain: a page as its head, lengths, bytes. -/
import Derived.Test.YthgclfhfipfknaaGreatGI
import Derived.Deep.MidRow
namespace Go.Proofs.YthgclfhfipfknaaGreat
open Go.ChangeShapes Go.WideShapes Go.ChangeAt Go.RowKit
set_option linter.unusedVariables false

/-- How many cells a page says that it has; where they end. -/
def cnt (l : List UInt8) : Nat := byt l 1
def endN (l : List UInt8) : Nat := 6 + byt l 1 + sm l (byt l 1)
/-- A page may be. -/
def okB (l : List UInt8) : Prop := byt l 0 ≤ 5 ∧ 6 + byt l 1 ≤ 256 ∧ (∀ i, i < byt l 1 → byt l (6 + i) ≠ 0 ∧ byt l (6 + i) ≤ 60) ∧ endN l ≤ 256 ∧ (∀ i, endN l ≤ i → i < 256 → byt l i = 0)
open Classical in
noncomputable def okE (l : List UInt8) : Int := if okB l then 0 else 8
theorem okE_no {l : List UInt8} (h : ¬ okB l) : okE l = 8 := if_neg h
theorem okE_yes {l : List UInt8} (h : okB l) : okE l = 0 := if_pos h

set_option maxRecDepth 20000 in
set_option maxHeartbeats 2000000 in
theorem check_walk (l : List UInt8) (hl : l.length = 256) (w : World) :
    Calls Tryz.prog 187 #[.agg (bc l)] w fun e w' => e = .returned (.int .i64 (okE l)) ∧ Below w.heap.size w w' := by
  have HP := hide (PAt.new w l)
  have HB := hide (new_below w (.cells (bc l) 59) rfl)
  have HL := hide hl
  have c0 := HP.out.cell (k := 0) (by omega)
  have c1 := HP.out.cell (k := 1) (by omega)
  have b1 := byt_lt l 1
  have e1 : IntKind.i64.wrap (byt l 1 : Int) = (byt l 1 : Int) := by rw [IntKind.wrap_i64]; omega
  have e2 : IntKind.i64.wrap (6 + (byt l 1 : Int)) = 6 + (byt l 1 : Int) := by rw [IntKind.wrap_i64]; omega
  clear hl
  by_cases h5 : 5 < byt l 0
  · have l5 : (5 : Int) < (byt l 0 : Int) := by omega
    have HN := hide (okE_no (l := l) (fun h => by have := h.1; omega))
    clear b1
    go_enter Tryz.func187, Tryz.ntmps187
    go_wp2
    go_ret
    exact ⟨by rw [HN.out]; rfl, HB.out⟩
  have l5 : ¬ (5 : Int) < (byt l 0 : Int) := by omega
  by_cases h6 : 256 < 6 + byt l 1
  · have l6 : (256 : Int) < 6 + (byt l 1 : Int) := by omega
    have HN := hide (okE_no (l := l) (fun h => by have := h.2.1; omega))
    clear b1
    go_enter Tryz.func187, Tryz.ntmps187
    go_wp2
    go_ret
    exact ⟨by rw [HN.out]; rfl, HB.out⟩
  have l6 : ¬ (256 : Int) < 6 + (byt l 1 : Int) := by omega
  have hs := cut_page (w.alloc (.cells (bc l) 59)) w.heap.size (x := 6) (y := 6 + (byt l 1 : Int)) 6 (byt l 1) rfl rfl (by omega) (by omega)
  have H5 := hide h5
  have H6 := hide h6
  clear b1 h5 h6
  go_enter Tryz.func187, Tryz.ntmps187
  go_wp2
  go_loopw [24] (fun iv wr => ∃ j : Nat, j ≤ byt l 1 ∧ iv = .int .i64 (j : Int) ∧ (∀ i, i < j → byt l (6 + i) ≠ 0 ∧ byt l (6 + i) ≤ 60) ∧ wr = w.alloc (.cells (bc l) 59)) (fun iv _ => byt l 1 - (intOf iv).toNat)
  case atStart => exact ⟨0, Nat.zero_le _, rfl, fun i hi => by omega, rfl⟩
  case round =>
    obtain ⟨j, hj, rfl, hall, rfl⟩ := hrel
    have HA := hide hall
    clear hall
    by_cases hlt : j < byt l 1
    · have l1 : (j : Int) < (byt l 1 : Int) := by omega
      have l0 : (0 : Int) ≤ (j : Int) := by omega
      have h6 := H6.out
      have hw1 : IntKind.i64.wrap ((j : Int) + 1) = (j : Int) + 1 := by rw [IntKind.wrap_i64]; omega
      have cj := HP.out.cell (k := 6 + j) (by rw [HL.out]; omega)
      by_cases hz : byt l (6 + j) = 0
      · have HN := hide (okE_no (l := l) (fun h => (h.2.2.1 j hlt).1 hz))
        rw [hz] at cj
        clear hz h6
        go_wp2
        go_ret
        exact ⟨by rw [HN.out]; rfl, HB.out⟩
      · by_cases h60 : 60 < byt l (6 + j)
        · have HN := hide (okE_no (l := l) (fun h => by have := (h.2.2.1 j hlt).2; omega))
          have l60 : (60 : Int) < (byt l (6 + j) : Int) := by omega
          clear h6
          go_wp2
          go_ret
          exact ⟨by rw [HN.out]; rfl, HB.out⟩
        · have l60 : ¬ (60 : Int) < (byt l (6 + j) : Int) := by omega
          have lz : ¬ (byt l (6 + j) : Int) = 0 := by omega
          clear h6
          go_wp2
          refine ⟨⟨j + 1, hlt, rfl, fun i hi => ?_, by trivial⟩, ?_⟩
          · by_cases e : i = j
            · subst e; exact ⟨hz, by omega⟩
            · exact HA.out i (by omega)
          · simp only [intOf]; omega
    · have l1 : ¬ (j : Int) < (byt l 1 : Int) := by omega
      obtain rfl : j = byt l 1 := by omega
      have h6 := H6.out
      have HS := hide (start_walk l HL.out (byt l 1) (by omega))
      by_cases he : 256 < 6 + byt l 1 + sm l (byt l 1)
      · have HN := hide (okE_no (l := l) (fun h => by have := h.2.2.2.1; unfold endN at this; omega))
        have le : (256 : Int) < 6 + (byt l 1 : Int) + (sm l (byt l 1) : Int) := by omega
        clear h6
        go_wp2_with (first
          | (refine wp_loadP HL.out HP.out _ (by rfl) (by rfl) (by rfl) ?_)
          | (go_at_call 225; with_reducible refine Calls.mono (HS.out _) ?_; rintro e w1 ⟨rfl, hb⟩; have HB1 := hide (below_trans HB.out hb); clear hb))
        go_ret
        exact ⟨by rw [HN.out]; rfl, HB1.out⟩
      · have le : ¬ (256 : Int) < 6 + (byt l 1 : Int) + (sm l (byt l 1) : Int) := by omega
        obtain ⟨x0, hs2, hx0, hx0'⟩ := cut_end' w.heap.size (x := 6 + (byt l 1 : Int) + (sm l (byt l 1) : Int)) (endN l) (by unfold endN; omega) (by unfold endN; omega)
        have HX0 := hide hx0
        have HE : Hid (endN l = 6 + byt l 1 + sm l (byt l 1)) := rfl
        have HLe := hide he
        clear hx0 hx0' h6 hs
        go_wp2_with (first
          | (refine wp_loadP HL.out HP.out _ (by rfl) (by rfl) (by rfl) ?_)
          | (go_at_call 225; with_reducible refine Calls.mono (HS.out _) ?_; rintro e w1 ⟨rfl, hb⟩; have HP1 := hide (HP.out.later hb); have HB1 := hide (below_trans HB.out hb); clear hb))
        go_loopw [43] (fun iv wr => ∃ j : Nat, j ≤ 256 - endN l ∧ iv = .int .i64 (j : Int) ∧ (∀ i, i < j → byt l (endN l + i) = 0) ∧ wr = w1) (fun iv _ => 256 - endN l - (intOf iv).toNat)
        case atStart => exact ⟨0, Nat.zero_le _, rfl, fun i hi => by omega, rfl⟩
        case round =>
          obtain ⟨j, hj, rfl, hall, rfl⟩ := hrel
          have HA2 := hide hall
          clear hall
          by_cases hlt : j < 256 - endN l
          · have l1 : (j : Int) < ((256 - endN l : Nat) : Int) := by omega
            have l0 : (0 : Int) ≤ (j : Int) := by omega
            have hw1 : IntKind.i64.wrap ((j : Int) + 1) = (j : Int) + 1 := by rw [IntKind.wrap_i64]; omega
            have cj := HP1.out.cell (k := endN l + j) (by rw [HL.out]; omega)
            rw [← HX0.out (by omega)] at cj
            by_cases hz : byt l (endN l + j) = 0
            · rw [← HX0.out (by omega)] at hz
              rw [hz] at cj
              rw [HX0.out (by omega)] at hz
              have HZ := hide hz
              clear hz
              go_wp2
              refine ⟨⟨j + 1, hlt, rfl, fun i hi => ?_, by trivial⟩, ?_⟩
              · by_cases e : i = j
                · subst e; exact HZ.out
                · exact HA2.out i (by omega)
              · simp only [intOf]; omega
            · have HN := hide (okE_no (l := l) (fun h => hz (h.2.2.2.2 _ (by omega) (by omega))))
              have lz : ¬ (byt l (x0 + j) : Int) = 0 := by rw [HX0.out (by omega)]; omega
              clear hz
              go_wp2
              go_ret
              exact ⟨by rw [HN.out]; rfl, HB1.out⟩
          · have l1 : ¬ (j : Int) < ((256 - endN l : Nat) : Int) := by omega
            have HN := hide (okE_yes (l := l) ⟨by have := H5.out; omega, by have := H6.out; omega, HA.out, by rw [HE.out]; have := HLe.out; omega, fun i h1 h2 => by have := HA2.out (i - endN l) (by omega); rwa [show endN l + (i - endN l) = i by omega] at this⟩)
            go_wp2
            go_ret
            exact ⟨by rw [HN.out]; rfl, HB1.out⟩
end Go.Proofs.YthgclfhfipfknaaGreat

namespace Go.Proofs.YthgclfhfipfknaaGreat
open Go.ChangeShapes Go.WideShapes Go.ChangeAt Go.RowKit
set_option linter.unusedVariables false

/-- The same as steps of a region that draws. -/
theorem step_loadP {ops : Array Oper} {o : Oper} {a : Act} {w : World} {K : Act → World → Prop} {Q : Exit → Act → World → Prop} {E : Prop} {g : Nat} {l : List UInt8} (hl : l.length = 256) (hg : PAt w g l) (x : Operand)
    (hgd : o.guard = none) (ho : o.op = .load 59 x) (hx : a.eval x = .pointer (some ⟨g, 0, none⟩)) (hK : K (a.put o.dst (.agg (bc l))) w) : if Region.wanted o (yielded ops a.tmps) = true then Oper.wp Tryz.prog o a w K Q else E := by
  have hw : Region.wanted o (yielded ops a.tmps) = true := by simp [Region.wanted, hgd]
  rw [if_pos hw]
  exact wp_load_row 59 x ho g hx 59 (bc l) (0, 0) _ hg page_arr rfl (page_size hl) hK

/-- A piece of a page's bytes. -/
def sub (l : List UInt8) (a n : Nat) : List UInt8 := (l.drop a).take n
theorem sub_length {l : List UInt8} {a n : Nat} (h : a + n ≤ l.length) : (sub l a n).length = n := by simp [sub]; omega
theorem sub_byt {l : List UInt8} {a n j : Nat} (h : j < n) : byt (sub l a n) j = byt l (a + j) := by
  simp [byt, sub, h, List.getElem?_drop]
def subS (l : List UInt8) (a n : Nat) : ByteArray := ⟨(sub l a n).toArray⟩
theorem conv_page {W : World} {g : Nat} {l : List UInt8} (hl : l.length = 256) (hg : PAt W g l) (x a n cap : Nat) (h : a + n ≤ 256) (hx : n = 0 ∨ x = a) : (convert 88 9 (.slice (some ⟨g, x, none⟩) n cap)).run Tryz.prog W = .ok (.string (subS l a n)) W := by
  have hn := sub_length (l := l) (a := a) (n := n) (by omega)
  have := conv_piece W g x cap (sub l a n) (fun j hj => by
    rw [hn] at hj
    rcases hx with h0 | rfl
    · omega
    · rw [sub_byt hj]; exact hg.cell (by omega))
  rw [hn] at this
  exact this
theorem step_convP {ops : Array Oper} {o : Oper} {a : Act} {w : World} {K : Act → World → Prop} {Q : Exit → Act → World → Prop} {E : Prop} {g : Nat} {l : List UInt8} (hl : l.length = 256) (hg : PAt w g l) (xx aa n cap : Nat) (h : aa + n ≤ 256) (hxx : n = 0 ∨ xx = aa) (x : Operand)
    (hgd : o.guard = none) (ho : o.op = .convert 88 9 x) (hx : a.eval x = .slice (some ⟨g, xx, none⟩) n cap) (hK : K (a.put o.dst (.string (subS l aa n))) w) : if Region.wanted o (yielded ops a.tmps) = true then Oper.wp Tryz.prog o a w K Q else E := by
  have hw : Region.wanted o (yielded ops a.tmps) = true := by simp [Region.wanted, hgd]
  rw [if_pos hw]
  unfold Oper.wp execOp
  simp only [ho, hx, Sem.run_bind, Sem.run_pure, Result.andThen_ok, conv_page hl hg xx aa n cap h hxx]
  exact hK
theorem cut_page' (g : Nat) {x y : Int} (a n : Nat) (hx : x = (a : Int)) (hy : y = (a : Int) + (n : Int)) (h : a + n ≤ 256) :
    ∃ x', (∀ W, (Instr.sliceAt 59 (.pointer (some ⟨g, 0, none⟩)) (some (.int .i64 x)) (some (.int .i64 y)) none).run Tryz.prog W = .ok (.slice (some ⟨g, x', none⟩) n (256 - a)) W) ∧ (n = 0 ∨ x' = a) := by
  by_cases ha : a < 256
  · exact ⟨a, fun W => cut_page W g a n hx hy h ha, .inr rfl⟩
  · obtain rfl : a = 256 := by omega
    obtain rfl : n = 0 := by omega
    subst hx hy
    refine ⟨0, fun W => ?_, .inl rfl⟩
    rw [run_sliceAt_array_lh W 59 ⟨g, 0, none⟩ (by rw [page_arrl, page_elem]; exact page_arr) .i64 .i64 _ _ (by omega) (by omega) (by rw [page_arrl]; omega), page_elem, size5, page_arrl]
    rfl

/-- Where the bytes of a cell begin. -/
def stN (l : List UInt8) (i : Nat) : Nat := 6 + byt l 1 + sm l i
theorem sm_mono (l : List UInt8) {i j : Nat} (h : i ≤ j) : sm l i ≤ sm l j := by
  induction j with
  | zero => obtain rfl : i = 0 := by omega
            exact Nat.le_refl _
  | succ n ih =>
    by_cases e : i = n + 1
    · subst e; exact Nat.le_refl _
    · simp only [sm]; exact Nat.le_trans (ih (by omega)) (Nat.le_add_right _ _)
theorem stN_mono (l : List UInt8) {i j : Nat} (h : i ≤ j) : stN l i ≤ stN l j := by have := sm_mono l h; unfold stN; omega

theorem PAt.range {w : World} {g : Nat} {l : List UInt8} (h : PAt w g l) : w.rangeAt g 0 (bcl l) := by
  intro j v hv
  rw [Nat.zero_add, cell_of_row w g j _ _ _ h]
  simpa [bc] using hv
theorem conv_range {W : World} {g : Nat} {l : List UInt8} (hl : l.length = 256) (hg : W.rangeAt g 0 (bcl l)) (x a n cap : Nat) (h : a + n ≤ 256) (hx : n = 0 ∨ x = a) : (convert 88 9 (.slice (some ⟨g, x, none⟩) n cap)).run Tryz.prog W = .ok (.string (subS l a n)) W := by
  have hn := sub_length (l := l) (a := a) (n := n) (by omega)
  have := conv_piece W g x cap (sub l a n) (fun j hj => by
    rw [hn] at hj
    rcases hx with h0 | rfl
    · omega
    · rw [sub_byt hj]
      have hk : x + j < l.length := by omega
      have := hg (x + j) (.int .u8 (byt l (x + j) : Int)) (by simp [bcl, byt, hk])
      rwa [Nat.zero_add] at this)
  rw [hn] at this
  exact this
end Go.Proofs.YthgclfhfipfknaaGreat

namespace Go.Proofs.YthgclfhfipfknaaGreat
open Go.ChangeShapes Go.WideShapes Go.ChangeAt Go.RowKit
set_option linter.unusedVariables false

open Classical in
noncomputable def cntV (l : List UInt8) : Nat := if okB l then byt l 1 else 0
open Classical in
noncomputable def kindV (l : List UInt8) : Nat := if okB l then byt l 0 else 0
open Classical in
noncomputable def linkV (l : List UInt8) : Nat := if okB l then lnk l else 0
open Classical in
noncomputable def roomV (l : List UInt8) : Nat := if okB l then 256 - endN l else 0

set_option maxRecDepth 20000 in
set_option maxHeartbeats 1000000 in
theorem count_walk (l : List UInt8) (hl : l.length = 256) (w : World) :
    Calls Tryz.prog 104 #[.agg (bc l)] w fun e w' => e = .returned (.int .i64 (cntV l : Int)) ∧ Below w.heap.size w w' := by
  have HP := hide (PAt.new w l)
  have HB := hide (new_below w (.cells (bc l) 59) rfl)
  have HL := hide hl
  by_cases ho : okB l
  · have HC := hide (fun V => by have := check_walk l hl V; rw [okE_yes ho] at this; exact this)
    have HV := hide (show cntV l = byt l 1 from if_pos ho)
    have b1 := byt_lt l 1
    have e1 : IntKind.i64.wrap (byt l 1 : Int) = (byt l 1 : Int) := by rw [IntKind.wrap_i64]; omega
    clear b1 hl ho
    go_enter Tryz.func104, Tryz.ntmps104
    go_wp2_with (first
      | (refine wp_loadP HL.out HP.out _ (by rfl) (by rfl) (by rfl) ?_)
      | (go_at_call 187; with_reducible refine Calls.mono (HC.out _) ?_; rintro e w1 ⟨rfl, hb⟩; have c1 := (HP.out.later hb).cell (k := 1) (by rw [HL.out]; omega); have HB1 := hide (below_trans HB.out hb); clear hb))
    go_ret
    exact ⟨by rw [HV.out]; rfl, HB1.out⟩
  · have HC := hide (fun V => by have := check_walk l hl V; rw [okE_no ho] at this; exact this)
    have HV := hide (show cntV l = 0 from if_neg ho)
    clear hl ho
    go_enter Tryz.func104, Tryz.ntmps104
    go_wp2_with (first
      | (refine wp_loadP HL.out HP.out _ (by rfl) (by rfl) (by rfl) ?_)
      | (go_at_call 187; with_reducible refine Calls.mono (HC.out _) ?_; rintro e w1 ⟨rfl, hb⟩; have HB1 := hide (below_trans HB.out hb); clear hb))
    go_ret
    exact ⟨by rw [HV.out]; rfl, HB1.out⟩

set_option maxRecDepth 20000 in
set_option maxHeartbeats 1000000 in
theorem kind_walk (l : List UInt8) (hl : l.length = 256) (w : World) :
    Calls Tryz.prog 103 #[.agg (bc l)] w fun e w' => e = .returned (.int .u8 (kindV l : Int)) ∧ Below w.heap.size w w' := by
  have HP := hide (PAt.new w l)
  have HB := hide (new_below w (.cells (bc l) 59) rfl)
  have HL := hide hl
  by_cases ho : okB l
  · have HC := hide (fun V => by have := check_walk l hl V; rw [okE_yes ho] at this; exact this)
    have HV := hide (show kindV l = byt l 0 from if_pos ho)
    clear hl ho
    go_enter Tryz.func103, Tryz.ntmps103
    go_wp2_with (first
      | (refine wp_loadP HL.out HP.out _ (by rfl) (by rfl) (by rfl) ?_)
      | (go_at_call 187; with_reducible refine Calls.mono (HC.out _) ?_; rintro e w1 ⟨rfl, hb⟩; have c1 := (HP.out.later hb).cell (k := 0) (by rw [HL.out]; omega); have HB1 := hide (below_trans HB.out hb); clear hb))
    go_ret
    exact ⟨by rw [HV.out]; rfl, HB1.out⟩
  · have HC := hide (fun V => by have := check_walk l hl V; rw [okE_no ho] at this; exact this)
    have HV := hide (show kindV l = 0 from if_neg ho)
    clear hl ho
    go_enter Tryz.func103, Tryz.ntmps103
    go_wp2_with (first
      | (refine wp_loadP HL.out HP.out _ (by rfl) (by rfl) (by rfl) ?_)
      | (go_at_call 187; with_reducible refine Calls.mono (HC.out _) ?_; rintro e w1 ⟨rfl, hb⟩; have HB1 := hide (below_trans HB.out hb); clear hb))
    go_ret
    exact ⟨by rw [HV.out]; rfl, HB1.out⟩

set_option maxRecDepth 20000 in
set_option maxHeartbeats 1000000 in
theorem link_walk (l : List UInt8) (hl : l.length = 256) (w : World) :
    Calls Tryz.prog 107 #[.agg (bc l)] w fun e w' => e = .returned (.int .u32 (linkV l : Int)) ∧ Below w.heap.size w w' := by
  have HP := hide (PAt.new w l)
  have HB := hide (new_below w (.cells (bc l) 59) rfl)
  have HL := hide hl
  by_cases ho : okB l
  · have HC := hide (fun V => by have := check_walk l hl V; rw [okE_yes ho] at this; exact this)
    have HK := hide (linkOf_walk l hl)
    have HV := hide (show linkV l = lnk l from if_pos ho)
    clear hl ho
    go_enter Tryz.func107, Tryz.ntmps107
    go_wp2_with (first
      | (refine wp_loadP HL.out HP.out _ (by rfl) (by rfl) (by rfl) ?_)
      | (refine wp_loadP HL.out HP1.out _ (by rfl) (by rfl) (by rfl) ?_)
      | (go_at_call 187; with_reducible refine Calls.mono (HC.out _) ?_; rintro e w1 ⟨rfl, hb⟩; have HP1 := hide (HP.out.later hb); have HB1 := hide (below_trans HB.out hb); clear hb)
      | (go_at_call 189; with_reducible refine Calls.mono (HK.out _) ?_; rintro e w2 ⟨rfl, hb⟩; have HB2 := hide (below_trans HB1.out hb); clear hb))
    go_ret
    exact ⟨by rw [HV.out]; rfl, HB2.out⟩
  · have HC := hide (fun V => by have := check_walk l hl V; rw [okE_no ho] at this; exact this)
    have HV := hide (show linkV l = 0 from if_neg ho)
    clear hl ho
    go_enter Tryz.func107, Tryz.ntmps107
    go_wp2_with (first
      | (refine wp_loadP HL.out HP.out _ (by rfl) (by rfl) (by rfl) ?_)
      | (go_at_call 187; with_reducible refine Calls.mono (HC.out _) ?_; rintro e w1 ⟨rfl, hb⟩; have HB1 := hide (below_trans HB.out hb); clear hb))
    go_ret
    exact ⟨by rw [HV.out]; rfl, HB1.out⟩
end Go.Proofs.YthgclfhfipfknaaGreat

namespace Go.Proofs.YthgclfhfipfknaaGreat
open Go.ChangeShapes Go.WideShapes Go.ChangeAt Go.RowKit
set_option linter.unusedVariables false

/-- A page while it is laid byte by byte. -/
def hd6 (k n L : Nat) : List UInt8 := [UInt8.ofNat k, UInt8.ofNat n, UInt8.ofNat (L / 16777216), UInt8.ofNat (L / 65536), UInt8.ofNat (L / 256), UInt8.ofNat L]
def layH (H : List UInt8) (S : Nat → ByteArray) (n i : Nat) : List UInt8 := H ++ (cat (fun i => lenS (S i)) i ++ (zeros (n - i) ++ (cat S i ++ zeros (250 - n - (cat S i).length))))
def layI (H : List UInt8) (S : Nat → ByteArray) (n i k : Nat) : List UInt8 := H ++ (cat (fun i => lenS (S i)) (i + 1) ++ (zeros (n - (i + 1)) ++ ((cat S i ++ (S i).data.toList.take k) ++ zeros (250 - n - ((cat S i).length + k)))))
theorem pageL_eq (k L n : Nat) (S : Nat → ByteArray) : pageL k L n S = layH (hd6 k n L) S n n := by
  unfold pageL lay layH setL hd6
  rw [cat_lenS]
  simp
end Go.Proofs.YthgclfhfipfknaaGreat
