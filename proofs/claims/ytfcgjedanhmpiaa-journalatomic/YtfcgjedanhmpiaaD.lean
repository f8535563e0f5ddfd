/- Contracts of a file's methods (resize, put, sector ..) over whatever world. -/
/- Contracts of a file's put over whatever world. -/
import Derived.Test.YtfcgjedanhmpiaaB
namespace Go.Proofs.Ytfcgjedanhmpiaa
open Go.ChangeShapes Go.WideShapes Go.ChangeAt Go.RowKit
set_option linter.unusedVariables false

theorem step_append_run {P : Program} {ops : Array Oper} {o : Oper} {a : Act} {w : World} {K : Act → World → Prop} {Q : Exit → Act → World → Prop} {E : Prop}
    (hg : o.guard = none) (s x : Operand) (t tn : TypeId) (hop : o.op = Op.call { callee := Callee.builtin Builtin.append, args := #[s, x], argTypes := #[t, tn] })
    (vs vx : Value) (hs : a.eval s = vs) (hx : a.eval x = vx) (n : Nat) (R : Value → World → Prop) (hform : ∀ v w, R v w → ∃ a c, v = .slice a n c)
    (hr : ∃ v' w', (Builtin.append_ #[t, tn] o.type #[vs, vx]).run P w = .ok v' w' ∧ R v' w')
    (hK : ∀ a' c' w', R (.slice a' n c') w' → K (a.put o.dst (.slice a' n c')) w') :
    if Region.wanted o (yielded ops a.tmps) = true then Oper.wp P o a w K Q else E := by
  have hw : Region.wanted o (yielded ops a.tmps) = true := by simp [Region.wanted, hg]
  rw [if_pos hw]
  obtain ⟨v', w', hrun, hR⟩ := hr
  unfold Oper.wp
  simp [execOp, hop, resolve, invoke, builtin, hs, hx, hrun, Result.andThen]
  obtain ⟨a', c', rfl⟩ := hform _ _ hR
  exact hK a' c' w' hR

theorem infoOf {P : Program} {t : TypeId} {z : Value} {n m : Nat} (h : (P.info? t).map (fun i => (i.zero, i.size, i.bytes)) = some (some z, n, m)) : ∃ i, P.info? t = some i ∧ i.zero = some z ∧ i.size = n ∧ i.bytes = m := by
  obtain ⟨i, h1, h2⟩ := Option.map_eq_some_iff.1 h
  simp only [Prod.mk.injEq] at h2
  exact ⟨i, h1, h2.1, h2.2.1, h2.2.2⟩
theorem info5' : (Try.prog.info? 5).map (fun i => (i.zero, i.size, i.bytes)) = some (some (.int .u8 0), 1, 1) := by kernel_rfl
theorem info5 : ∃ i, Try.prog.info? 5 = some i ∧ i.zero = some (.int .u8 0) ∧ i.size = 1 ∧ i.bytes = 1 := infoOf info5'

set_option maxHeartbeats 400000 in
theorem file_resize_more (w : World) (b o : Nat) (c : Array Value) (t : TypeId) (base : Nat) (v : Value) (l : List UInt8) (m : Nat) (hb : Blk w b c t) (hc : c[o]? = some v) (hown : Own w base v l)
    (hne : v.ownBlock ≠ some b) (hm : l.length < m) (hm2 : m ≤ 1048576) (hbase : base ≤ w.heap.size) :
    Calls Try.prog 61 #[.pointer (some ⟨b, o, none⟩), .int .i64 m] w fun e w' => e = .returned (.tuple #[]) ∧
      ∃ v' w1, Own w1 base v' (l ++ List.replicate (m - l.length) 0) ∧ w.grownBy w1 v.ownBlock ∧ (∃ g, v'.ownBlock = some g ∧ (v.ownBlock = some g ∨ w.heap.size ≤ g)) ∧ w' = w1.setCell ⟨b, o, none⟩ v' := by
  obtain ⟨i, hi, hz, hsize, hby⟩ := info5
  have h0 : w.cell? ⟨b, o, none⟩ = some v := (hb.cell o).trans hc
  have f0 := hb.frozen o
  have hblt := hb.lt
  obtain ⟨a, cap, rfl⟩ := ownsRow_form hown
  have hlt : ¬ (m : Int) ≤ (l.length : Int) := by omega
  have hsub : (m : Int) - (l.length : Int) = ((m - l.length : Nat) : Int) := by omega
  have hwr : IntKind.i64.wrap ((m - l.length : Nat) : Int) = ((m - l.length : Nat) : Int) := by rw [IntKind.wrap_i64]; omega
  have H := app_zeros (P := Try.prog) w.drew base 43 3 43 i .i64 Try.underlying43 Try.underlying3 hi hz hsize hby (.slice a l.length cap) l hown (m - l.length) (by omega) (by omega) hbase
  go_enter Try.func61, Try.ntmps61
  go_wp2
  clear hlt
  go_region_law (refine step_append_run rfl (.tmp 24) (.tmp 31) 43 3 rfl (.slice a l.length cap) (.int .i64 ↑(m - l.length)) (by simp [Act.eval, Act.put]) (by simp [Act.eval, Act.put]) (l ++ List.replicate (m - l.length) 0).length _ (fun v w h => ownsRow_form h.1) H ?_; intro a1 c1 w1 hR; have h1 : w1.cell? ⟨b, o, none⟩ = some (.slice a l.length cap) := hR.2.1.cell (w := w.drew) h0 (fun e => hne e.symm); have f1 : w1.frozen? ⟨b, o, none⟩ = false := (World.frozen?_of_block (hR.2.1.block b hblt (fun e => hne e.symm))).trans f0)
  all_goals
    go_end0
    exact ⟨rfl, _, w1, hR.1, ⟨hR.2.1.os, hR.2.1.tape, hR.2.1.output, hR.2.1.size, hR.2.1.block⟩, hR.2.2, by simp⟩

end Go.Proofs.Ytfcgjedanhmpiaa

namespace Go.Proofs.Ytfcgjedanhmpiaa
open Go.ChangeShapes Go.WideShapes Go.ChangeAt Go.RowKit
set_option linter.unusedVariables false

theorem bytes_size : (Try.prog.info? 5).map (·.size) = some 1 := by kernel_rfl

theorem length_splice' {α : Type} (l : List α) (o : Nat) (d : List α) (h : o + d.length ≤ l.length) : (splice l o d).length = l.length := length_splice l o d h

theorem bcs_splice (l : List UInt8) (o : Nat) (d : List UInt8) : bcs (splice l o d) = splice (bcs l) o (bcs d) := by
  simp [splice, bcs, List.map_take, List.map_drop]

theorem splice_take {α : Type} (cur : List α) (n o : Nat) (d : List α) (h : o + d.length ≤ n) (hn : n ≤ cur.length) : (splice cur o d).take n = splice (cur.take n) o d := by
  unfold splice
  have h1 : (List.take o cur).length = o := by simp; omega
  rw [List.take_append, List.take_append, h1, List.take_of_length_le (i := n) (l := List.take o cur) (by omega), List.take_of_length_le (l := d) (by omega), List.take_take, List.drop_take, show min o n = o by omega]
  congr 3
  omega

set_option maxRecDepth 100000 in
theorem put_at (w : World) (b o : Nat) (c : Array Value) (t : TypeId) (base : Nat) (v : Value) (l d : List UInt8) (at_ : Nat) (ad : Addr) (dc : Nat) (hb : Blk w b c t) (hc : c[o]? = some v) (hown : Own w base v l)
    (hat : at_ < l.length) (hl : l.length ≤ 1048576) (hd : ∀ j u, (bcs d)[j]? = some u → w.cell? (ad.add j) = some u) :
    Calls Try.prog 62 #[.pointer (some ⟨b, o, none⟩), .int .i64 at_, .slice (some ad) d.length dc] w fun e w' => e = .returned (.tuple #[]) ∧
      Own w' base v (splice l at_ (d.take (l.length - at_))) ∧ w.grownBy w' v.ownBlock := by
  have h0 : w.cell? ⟨b, o, none⟩ = some v := (hb.cell o).trans hc
  rcases hown.2 with ⟨rfl, hz⟩ | ⟨g, cap, cur, rfl, hbg, hg, hnc, hcm, hcs, htake⟩
  · omega
  · have h1 : (at_ : Int) < (l.length : Int) := by omega
    have h2 : (l.length : Int) ≤ (cap : Int) := by omega
    have h3 : (at_ : Int) ≤ (l.length : Int) := by omega
    have h4 : at_ < cap := by omega
    clear hb
    unfold maxLen at hcm
    go_enter Try.func62, Try.ntmps62
    have hcl : ((bcs d).take (l.length - at_)).length = min (l.length - at_) d.length := by simp [length_bcs]
    have hcp := run_copy_row (P := Try.prog) w 43 43 3 5 g at_ (l.length - at_) (cap - at_) ad d.length dc cur 5 ((bcs d).take (l.length - at_)) Try.underlying43 bytes_size hg (by rw [hcl]; exact Nat.min_comm _ _)
      (fun j u hj => hd j u (by rw [List.getElem?_take] at hj; split at hj; exact hj; cases hj)) (by rw [hcl]; omega) (fun u hu => one_bcs d u (List.mem_of_mem_take hu))
    have HT : Hid (List.take (l.length * 1) cur.toList = bcs l) := htake
    have HS : Hid (cur.size = cap * 1) := hcs
    have HG : Hid (w.heap[g]? = some (.cells cur 5 (0, 0))) := hg
    clear hd htake hcs hown hc hg
    have HL : Hid (((bcs d).take (l.length - at_)).length = min (l.length - at_) d.length) := hcl
    clear hcl
    go_wp2
    go_end0
    refine ⟨rfl, ?_, ⟨rfl, rfl, rfl, by simp, fun j _ hj => setRow_other w g j _ (fun e => hj (by simp [Value.ownBlock, e]))⟩⟩
    have hdl : (d.take (l.length - at_)).length = min (l.length - at_) d.length := by simp
    have hsl : (splice l at_ (d.take (l.length - at_))).length = l.length := length_splice _ _ _ (by rw [hdl]; omega)
    refine ⟨by rw [length_bcs, Nat.mul_one], .inr ⟨g, cap, _, by rw [hsl], hbg, setRow_heap w g cur _ 5 _ HG.out, by rw [hsl]; exact hnc, by simpa [maxLen] using hcm, ?_, ?_⟩⟩
    · have := HS.out; have := HL.out; simp at *; omega
    · have hT := HT.out
      have hS := HS.out
      have hL := HL.out
      rw [hsl, bcs_splice, ← hT, ← splice_take _ _ _ _ (by rw [length_bcs, hdl]; omega) (by simp; omega)]
      congr 1
      simp [splice, bcs]

end Go.Proofs.Ytfcgjedanhmpiaa
