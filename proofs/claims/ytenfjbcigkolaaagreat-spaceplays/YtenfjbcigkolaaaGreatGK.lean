/- What a page tells; a piece of its cells. -/
import Derived.Test.YtenfjbcigkolaaaGreatGJ
import Derived.Deep.MidRow
namespace Go.Proofs.YtenfjbcigkolaaaGreat
open Go.ChangeShapes Go.WideShapes Go.ChangeAt Go.RowKit
set_option linter.unusedVariables false

/-- The same as steps of a region that draws. -/
theorem step_loadP {ops : Array Oper} {o : Oper} {a : Act} {w : World} {K : Act → World → Prop} {Q : Exit → Act → World → Prop} {E : Prop} {g : Nat} {l : List UInt8} (hl : l.length = 256) (hg : PAt w g l) (x : Operand)
    (hgd : o.guard = none) (ho : o.op = .load 32 x) (hx : a.eval x = .pointer (some ⟨g, 0, none⟩)) (hK : K (a.put o.dst (.agg (bc l))) w) : if Region.wanted o (yielded ops a.tmps) = true then Oper.wp Tryz.prog o a w K Q else E := by
  have hw : Region.wanted o (yielded ops a.tmps) = true := by simp [Region.wanted, hgd]
  rw [if_pos hw]
  exact wp_load_row 32 x ho g hx 32 (bc l) (0, 0) _ hg page_arr rfl (page_size hl) hK

/-- A piece of a page's bytes. -/
def sub (l : List UInt8) (a n : Nat) : List UInt8 := (l.drop a).take n
theorem sub_length {l : List UInt8} {a n : Nat} (h : a + n ≤ l.length) : (sub l a n).length = n := by simp [sub]; omega
theorem sub_byt {l : List UInt8} {a n j : Nat} (h : j < n) : byt (sub l a n) j = byt l (a + j) := by
  simp [byt, sub, h, List.getElem?_drop]
def subS (l : List UInt8) (a n : Nat) : ByteArray := ⟨(sub l a n).toArray⟩
theorem conv_page {W : World} {g : Nat} {l : List UInt8} (hl : l.length = 256) (hg : PAt W g l) (x a n cap : Nat) (h : a + n ≤ 256) (hx : n = 0 ∨ x = a) : (convert 53 9 (.slice (some ⟨g, x, none⟩) n cap)).run Tryz.prog W = .ok (.string (subS l a n)) W := by
  have hn := sub_length (l := l) (a := a) (n := n) (by omega)
  have := conv_piece W g x cap (sub l a n) (fun j hj => by
    rw [hn] at hj
    rcases hx with h0 | rfl
    · omega
    · rw [sub_byt hj]; exact hg.cell (by omega))
  rw [hn] at this
  exact this
theorem step_convP {ops : Array Oper} {o : Oper} {a : Act} {w : World} {K : Act → World → Prop} {Q : Exit → Act → World → Prop} {E : Prop} {g : Nat} {l : List UInt8} (hl : l.length = 256) (hg : PAt w g l) (xx aa n cap : Nat) (h : aa + n ≤ 256) (hxx : n = 0 ∨ xx = aa) (x : Operand)
    (hgd : o.guard = none) (ho : o.op = .convert 53 9 x) (hx : a.eval x = .slice (some ⟨g, xx, none⟩) n cap) (hK : K (a.put o.dst (.string (subS l aa n))) w) : if Region.wanted o (yielded ops a.tmps) = true then Oper.wp Tryz.prog o a w K Q else E := by
  have hw : Region.wanted o (yielded ops a.tmps) = true := by simp [Region.wanted, hgd]
  rw [if_pos hw]
  unfold Oper.wp execOp
  simp only [ho, hx, Sem.run_bind, Sem.run_pure, Result.andThen_ok, conv_page hl hg xx aa n cap h hxx]
  exact hK
theorem cut_page' (g : Nat) {x y : Int} (a n : Nat) (hx : x = (a : Int)) (hy : y = (a : Int) + (n : Int)) (h : a + n ≤ 256) :
    ∃ x', (∀ W, (Instr.sliceAt 32 (.pointer (some ⟨g, 0, none⟩)) (some (.int .i64 x)) (some (.int .i64 y)) none).run Tryz.prog W = .ok (.slice (some ⟨g, x', none⟩) n (256 - a)) W) ∧ (n = 0 ∨ x' = a) := by
  by_cases ha : a < 256
  · exact ⟨a, fun W => cut_page W g a n hx hy h ha, .inr rfl⟩
  · obtain rfl : a = 256 := by omega
    obtain rfl : n = 0 := by omega
    subst hx hy
    refine ⟨0, fun W => ?_, .inl rfl⟩
    rw [run_sliceAt_array_lh W 32 ⟨g, 0, none⟩ (by rw [page_arrl, page_elem]; exact page_arr) .i64 .i64 _ _ (by omega) (by omega) (by rw [page_arrl]; omega), page_elem, size5, page_arrl]
    rfl

/-- Where the bytes of a cell begin. -/
def stN (l : List UInt8) (i : Nat) : Nat := 6 + byt l 1 + sm l i
theorem sm_mono (l : List UInt8) {i j : Nat} (h : i ≤ j) : sm l i ≤ sm l j := by
  induction j with
  | zero => obtain rfl : i = 0 := by omega
            exact Nat.le_refl _
  | succ n ih =>
    by_cases e : i = n + 1
    · subst e; exact Nat.le_refl _
    · simp only [sm]; exact Nat.le_trans (ih (by omega)) (Nat.le_add_right _ _)
theorem stN_mono (l : List UInt8) {i j : Nat} (h : i ≤ j) : stN l i ≤ stN l j := by have := sm_mono l h; unfold stN; omega

theorem PAt.range {w : World} {g : Nat} {l : List UInt8} (h : PAt w g l) : w.rangeAt g 0 (bcl l) := by
  intro j v hv
  rw [Nat.zero_add, cell_of_row w g j _ _ _ h]
  simpa [bc] using hv
theorem conv_range {W : World} {g : Nat} {l : List UInt8} (hl : l.length = 256) (hg : W.rangeAt g 0 (bcl l)) (x a n cap : Nat) (h : a + n ≤ 256) (hx : n = 0 ∨ x = a) : (convert 53 9 (.slice (some ⟨g, x, none⟩) n cap)).run Tryz.prog W = .ok (.string (subS l a n)) W := by
  have hn := sub_length (l := l) (a := a) (n := n) (by omega)
  have := conv_piece W g x cap (sub l a n) (fun j hj => by
    rw [hn] at hj
    rcases hx with h0 | rfl
    · omega
    · rw [sub_byt hj]
      have hk : x + j < l.length := by omega
      have := hg (x + j) (.int .u8 (byt l (x + j) : Int)) (by simp [bcl, byt, hk])
      rwa [Nat.zero_add] at this)
  rw [hn] at this
  exact this
end Go.Proofs.YtenfjbcigkolaaaGreat
