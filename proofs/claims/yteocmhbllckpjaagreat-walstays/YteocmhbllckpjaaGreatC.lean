/- Contracts of a file's methods (resize, put, sector ..) over whatever world. -/
import Derived.Test.YteocmhbllckpjaaGreatB
namespace Go.Proofs.YteocmhbllckpjaaGreat
open Go.ChangeShapes Go.WideShapes Go.ChangeAt Go.RowKit
set_option linter.unusedVariables false

theorem step_append_run {P : Program} {ops : Array Oper} {o : Oper} {a : Act} {w : World} {K : Act → World → Prop} {Q : Exit → Act → World → Prop} {E : Prop}
    (hg : o.guard = none) (s x : Operand) (t tn : TypeId) (hop : o.op = Op.call { callee := Callee.builtin Builtin.append, args := #[s, x], argTypes := #[t, tn] })
    (vs vx : Value) (hs : a.eval s = vs) (hx : a.eval x = vx) (n : Nat) (R : Value → World → Prop) (hform : ∀ v w, R v w → ∃ a c, v = .slice a n c)
    (hr : ∃ v' w', (Builtin.append_ #[t, tn] o.type #[vs, vx]).run P w = .ok v' w' ∧ R v' w')
    (hK : ∀ a' c' w', R (.slice a' n c') w' → K (a.put o.dst (.slice a' n c')) w') :
    if Region.wanted o (yielded ops a.tmps) = true then Oper.wp P o a w K Q else E := by
  have hw : Region.wanted o (yielded ops a.tmps) = true := by simp [Region.wanted, hg]
  rw [if_pos hw]
  obtain ⟨v', w', hrun, hR⟩ := hr
  unfold Oper.wp
  simp [execOp, hop, resolve, invoke, builtin, hs, hx, hrun, Result.andThen]
  obtain ⟨a', c', rfl⟩ := hform _ _ hR
  exact hK a' c' w' hR

theorem infoOf {P : Program} {t : TypeId} {z : Value} {n m : Nat} (h : (P.info? t).map (fun i => (i.zero, i.size, i.bytes)) = some (some z, n, m)) : ∃ i, P.info? t = some i ∧ i.zero = some z ∧ i.size = n ∧ i.bytes = m := by
  obtain ⟨i, h1, h2⟩ := Option.map_eq_some_iff.1 h
  simp only [Prod.mk.injEq] at h2
  exact ⟨i, h1, h2.1, h2.2.1, h2.2.2⟩
theorem info5' : (Tryz.prog.info? 5).map (fun i => (i.zero, i.size, i.bytes)) = some (some (.int .u8 0), 1, 1) := by kernel_rfl
theorem info5 : ∃ i, Tryz.prog.info? 5 = some i ∧ i.zero = some (.int .u8 0) ∧ i.size = 1 ∧ i.bytes = 1 := infoOf info5'

set_option maxHeartbeats 400000 in
theorem file_resize_more (w : World) (b o : Nat) (c : Array Value) (t : TypeId) (base : Nat) (v : Value) (l : List UInt8) (m : Nat) (hb : Blk w b c t) (hc : c[o]? = some v) (hown : Own w base v l)
    (hne : v.ownBlock ≠ some b) (hm : l.length < m) (hm2 : m ≤ 1048576) (hbase : base ≤ w.heap.size) :
    Calls Tryz.prog 97 #[.pointer (some ⟨b, o, none⟩), .int .i64 m] w fun e w' => e = .returned (.tuple #[]) ∧
      ∃ v' w1, Own w1 base v' (l ++ List.replicate (m - l.length) 0) ∧ w.grownBy w1 v.ownBlock ∧ (∃ g, v'.ownBlock = some g ∧ (v.ownBlock = some g ∨ w.heap.size ≤ g)) ∧ w' = w1.setCell ⟨b, o, none⟩ v' := by
  obtain ⟨i, hi, hz, hsize, hby⟩ := info5
  have h0 : w.cell? ⟨b, o, none⟩ = some v := (hb.cell o).trans hc
  have f0 := hb.frozen o
  have hblt := hb.lt
  obtain ⟨a, cap, rfl⟩ := ownsRow_form hown
  have hlt : ¬ (m : Int) ≤ (l.length : Int) := by omega
  have hsub : (m : Int) - (l.length : Int) = ((m - l.length : Nat) : Int) := by omega
  have hwr : IntKind.i64.wrap ((m - l.length : Nat) : Int) = ((m - l.length : Nat) : Int) := by rw [IntKind.wrap_i64]; omega
  have H := app_zeros (P := Tryz.prog) w.drew base 62 3 62 i .i64 Tryz.underlying62 Tryz.underlying3 hi hz hsize hby (.slice a l.length cap) l hown (m - l.length) (by omega) (by omega) hbase
  go_enter Tryz.func97, Tryz.ntmps97
  go_wp2
  clear hlt
  go_region_law (refine step_append_run rfl (.tmp 24) (.tmp 31) 62 3 rfl (.slice a l.length cap) (.int .i64 ↑(m - l.length)) (by simp [Act.eval, Act.put]) (by simp [Act.eval, Act.put]) (l ++ List.replicate (m - l.length) 0).length _ (fun v w h => ownsRow_form h.1) H ?_; intro a1 c1 w1 hR; have h1 : w1.cell? ⟨b, o, none⟩ = some (.slice a l.length cap) := hR.2.1.cell (w := w.drew) h0 (fun e => hne e.symm); have f1 : w1.frozen? ⟨b, o, none⟩ = false := (World.frozen?_of_block (hR.2.1.block b hblt (fun e => hne e.symm))).trans f0)
  all_goals
    go_end0
    exact ⟨rfl, _, w1, hR.1, ⟨hR.2.1.os, hR.2.1.tape, hR.2.1.output, hR.2.1.size, hR.2.1.block⟩, hR.2.2, by simp⟩

end Go.Proofs.YteocmhbllckpjaaGreat
