/- slices.Clone of bytes; what is seen has turned; a change that is lost. -/
import Derived.Test.YtefcconbpomedaaV8
import Derived.Lib.SliceRun
namespace Go.Proofs.Ytefcconbpomedaa
open Go.ChangeShapes Go.WideShapes Go.ChangeAt Go.RowKit
open Go.ChangeMaps (setBlock)
set_option linter.unusedVariables false

section
variable {w w' : World} {base b : Nat} {D : DS} {who : Nat → Nat}

/-- What is seen of one file has turned. -/
theorem Rep.setS2 (R : Rep w base b D who) {f0 : FL} (hf0 : f0 ∈ D.fs) (v' : Value) (l' : List UInt8) (hv : ∀ g, v'.ownBlock = some g → f0.sv.ownBlock = some g ∨ w.heap.size ≤ g)
    (h' : Only (f0.eb :: f0.sv.ownBlock.toList) w w') (hb : Blk w' f0.eb #[v', f0.kv] 78) (ho : Own w' base v' l') :
    Rep w' base b { D with fs := upd D.fs f0.born fun f => { f with sv := v', seen := l' } } (fun k => if v'.ownBlock = some k then 4 + 3 * f0.born else who k) := by
  have hwf := R.we f0 hf0
  have ng : ∀ k, k < w.heap.size → who k ≠ 4 + 3 * f0.born → ¬ v'.ownBlock = some k := fun k hk h2 e => by
    rcases hv k e with hg | hg
    · rw [R.ws f0 hf0 k hg] at h2; exact h2 rfl
    · omega
  have nS : ∀ k, who k ≠ 3 + 3 * f0.born → who k ≠ 4 + 3 * f0.born → k ∉ f0.eb :: f0.sv.ownBlock.toList := fun k h0 h2 hm => by
    rcases List.mem_cons.1 hm with rfl | hm
    · exact h0 hwf
    · exact h2 (R.ws f0 hf0 k (by simpa using hm))
  have key : ∀ f' ∈ upd D.fs f0.born (fun f => { f with sv := v', seen := l' }), (f' = { f0 with sv := v', seen := l' }) ∨ (f' ∈ D.fs ∧ f'.born ≠ f0.born) := fun f' hf' => by
    obtain ⟨f, hf, ⟨e, rfl⟩ | ⟨e, rfl⟩⟩ := mem_upd hf'
    · have : f = f0 := FL.inj R.nodup hf hf0 e
      subst this; exact .inl rfl
    · exact .inr ⟨hf, e⟩
  refine
    { blk := h'.blk R.blk (nS _ (by rw [R.wb]; omega) (by rw [R.wb]; omega))
      map := by
        show w'.heap[D.mb]? = some (.map (ents (upd D.fs f0.born _)) D.clock)
        rw [ents_upd (g := fun f => { f with sv := v', seen := l' }) (fun f => rfl)]; exact h'.blk R.map (nS _ (by rw [R.wm]; omega) (by rw [R.wm]; omega))
      born := fun f' hf' => by
        rcases key f' hf' with rfl | ⟨hf, _⟩
        · exact R.born f0 hf0
        · exact R.born f' hf
      nodup := by show ((upd D.fs f0.born _).map (·.born)).Nodup; rw [born_upd (g := fun f => { f with sv := v', seen := l' }) (fun f => rfl)]; exact R.nodup
      ent := fun f' hf' => by
        rcases key f' hf' with rfl | ⟨hf, e⟩
        · exact hb
        · exact h'.blk (R.ent f' hf) (nS _ (by rw [R.we f' hf]; omega) (by rw [R.we f' hf]; omega))
      osv := fun f' hf' => by
        rcases key f' hf' with rfl | ⟨hf, e⟩
        · exact ho
        · exact ownsRow_only (R.osv f' hf) h' (fun k hk => nS _ (by rw [R.ws f' hf k hk]; omega) (by rw [R.ws f' hf k hk]; omega))
      okv := fun f' hf' => by
        rcases key f' hf' with rfl | ⟨hf, e⟩
        · exact ownsRow_only (R.okv f0 hf0) h' (fun k hk => nS _ (by rw [R.wk f0 hf0 k hk]; omega) (by rw [R.wk f0 hf0 k hk]; omega))
        · exact ownsRow_only (R.okv f' hf) h' (fun k hk => nS _ (by rw [R.wk f' hf k hk]; omega) (by rw [R.wk f' hf k hk]; omega))
      ochs := ownsRow_only R.ochs h' (fun k hk => nS _ (by rw [R.wc k hk]; omega) (by rw [R.wc k hk]; omega))
      c64 := R.c64, lowb := R.lowb, lowm := R.lowm
      lowe := fun f' hf' => by
        rcases key f' hf' with rfl | ⟨hf, _⟩
        · exact R.lowe f0 hf0
        · exact R.lowe f' hf
      wb := by rw [if_neg (ng b R.blk.lt (by rw [R.wb]; omega))]; exact R.wb
      wm := by show (if v'.ownBlock = some D.mb then _ else who D.mb) = 1; rw [if_neg (ng _ R.mlt (by rw [R.wm]; omega))]; exact R.wm
      wc := fun k hk => by rw [if_neg (ng _ (own_lt R.ochs k hk).2 (by rw [R.wc k hk]; omega))]; exact R.wc k hk
      we := fun f' hf' => by
        rcases key f' hf' with rfl | ⟨hf, e⟩
        · show (if v'.ownBlock = some f0.eb then _ else who f0.eb) = _; rw [if_neg (ng _ (R.ent f0 hf0).lt (by rw [hwf]; omega))]; exact hwf
        · rw [if_neg (ng _ (R.ent f' hf).lt (by rw [R.we f' hf]; omega))]; exact R.we f' hf
      ws := fun f' hf' k hk => by
        rcases key f' hf' with rfl | ⟨hf, e⟩
        · have hk' : v'.ownBlock = some k := hk
          rw [if_pos hk']
        · rw [if_neg (ng _ (own_lt (R.osv f' hf) k hk).2 (by rw [R.ws f' hf k hk]; omega))]; exact R.ws f' hf k hk
      wk := fun f' hf' k hk => by
        rcases key f' hf' with rfl | ⟨hf, e⟩
        · have hk' : f0.kv.ownBlock = some k := hk
          rw [if_neg (ng _ (own_lt (R.okv f0 hf0) k hk').2 (by rw [R.wk f0 hf0 k hk']; omega))]; exact R.wk f0 hf0 k hk'
        · rw [if_neg (ng _ (own_lt (R.okv f' hf) k hk).2 (by rw [R.wk f' hf k hk]; omega))]; exact R.wk f' hf k hk }

end
theorem wp_run2 {ops : Array Oper} {rest : List Oper} {o : Oper} {a : Act} {Q : Exit → Act → World → Prop} {w : World} (hgd : o.guard = none) (sl x : Operand) (t u : TypeId)
    (ho : o.op = .call { callee := .builtin .append, args := #[sl, x], argTypes := #[t, u] }) (v xv v' : Value) (w' : World) (hs : a.eval sl = v) (hx : a.eval x = xv)
    (hr : (Builtin.append_ #[t, u] o.type #[v, xv]).run Try.prog w = .ok v' w') (h : wpList Try.prog ops Q rest (a.put o.dst v') w') : wpList Try.prog ops Q (o :: rest) a w := by
  refine wpList_plain hgd fun K hK => ?_
  unfold Oper.wp execOp
  simp only [ho, resolve, invoke, builtin, Sem.run_bind, Sem.run_pure, Result.andThen_ok, List.map_toArray, List.map_cons, List.map_nil, hs, hx, hr]
  exact hK _ _ h

theorem app_none (pv : Option Addr) (n cv : Nat) (hn : n ≤ cv) (p : Option Addr) (c : Nat) (ty : TypeId) (W : World) : (Builtin.append_ #[67, 67] ty #[.slice pv n cv, .slice p 0 c]).run Try.prog W = .ok (.slice pv n cv) W := by
  obtain ⟨i, hi, hz, hsz, hby⟩ := info5
  cases p <;> cases pv <;> simp [Builtin.append_, run_underlying Try.underlying67, sizeOf, typeInfo, hi, Builtin.lenOf, Builtin.firstCells, loadCells, loadCellsFrom, storeCells, hn]

set_option maxHeartbeats 1000000 in
set_option maxRecDepth 100000 in
theorem clone_any (w : World) (base : Nat) (v : Value) (l : List UInt8) (hown : Own w base v l) (hl : l.length ≤ 1048576) (hbase : base ≤ w.heap.size) :
    Calls Try.prog 41 #[v] w fun e w' => ∃ v', e = .returned v' ∧ Own w' base v' l ∧ (∀ g, v'.ownBlock = some g → w.heap.size ≤ g) ∧ w.grownBy w' none := by
  rcases hown.2 with ⟨rfl, hz⟩ | ⟨g, cap, cur, rfl, hbg, hg, hnc, hcm, hcs, htake⟩
  · have e1 : l = [] := List.length_eq_zero_iff.1 hz
    subst e1
    have hnl : ∀ V, (binOp .eql 67 (.slice none 0 0) (.slice none 0 0)).run Try.prog V = .ok (.bool true) V := fun V => Lib.run_eql_slice_nil (P := Try.prog) V 67 5 none 0 0 0 0 Try.underlying67
    clear hown
    go_enter Try.func41, Try.ntmps41
    go_wp2
    go_ret
    exact ⟨_, rfl, World.ownsRow_nil _ _ _ _, (fun g h => by cases h), ⟨rfl, rfl, rfl, Nat.le_refl _, fun _ _ _ => rfl⟩⟩
  · have hG0 := World.grownBy_alloc w (.cells #[] 5) none
    have hE : (w.alloc (.cells #[] 5)).ownsRow w.heap.size 5 1 (.slice (some ⟨w.heap.size, 0, none⟩) 0 0) 0 [] := ⟨rfl, .inr ⟨w.heap.size, 0, #[], rfl, Nat.le_refl _, alloc_new _ _, Nat.le_refl _, Nat.zero_le _, rfl, rfl⟩⟩
    obtain ⟨v', w', hap, h2, h3, h4⟩ : ∃ v' w', (∀ ty, (Builtin.append_ #[67, 67] ty #[.slice (some ⟨w.heap.size, 0, none⟩) 0 0, .slice (some ⟨g, 0, none⟩) l.length cap]).run Try.prog (w.alloc (.cells #[] 5)) = .ok v' w') ∧ Own w' base v' l ∧ (w.alloc (.cells #[] 5)).grownBy w' (some w.heap.size) ∧ ∀ k, v'.ownBlock = some k → w.heap.size ≤ k := by
      by_cases h0 : l.length = 0
      · have e1 : l = [] := List.length_eq_zero_iff.1 h0
        subst e1
        exact ⟨_, _, fun ty => app_none _ 0 0 (Nat.le_refl _) _ _ ty _, ownsRow_base hE hbase, ⟨rfl, rfl, rfl, Nat.le_refl _, fun _ _ _ => rfl⟩, fun k hk => by cases hk; exact Nat.le_refl _⟩
      · obtain ⟨i, hi, hz, hsz, hby⟩ := info5
        have hc := hown.cells (g := g) rfl
        have key := fun ty => app_own (P := Try.prog) (w.alloc (.cells #[] 5)) w.heap.size 67 ty 5 i _ 1 1 Try.underlying67 hi hz hsz hby rfl (by omega) (.slice (some ⟨w.heap.size, 0, none⟩) 0 0) 0 [] hE ⟨g, 0, none⟩ l.length cap (by omega) (bcs l) (by rw [length_bcs, Nat.mul_one]) (fun j u hj => (World.grownBy_alloc w _ none).cell (hc j u hj) (by simp)) (one_bcs l) (by simp only [maxLen]; omega) (by omega) (by simp)
        obtain ⟨v', w', hrun, ho, hg', q, hq, hqq⟩ := key 0
        refine ⟨v', w', fun ty => ?_, ?_, hg', fun k hk => ?_⟩
        · exact hrun
        · have := ownsRow_base ho hbase
          simpa using this
        · rw [hq] at hk
          cases hk
          rcases hqq with h | h
          · cases h; exact Nat.le_refl _
          · simp at h; omega
    have hgw : w.grownBy w' none := ⟨h3.os.trans hG0.os, h3.tape.trans hG0.tape, h3.output.trans hG0.output, Nat.le_trans hG0.size h3.size, fun k hk _ => by
      have hk2 : k < (w.alloc (.cells #[] 5)).heap.size := by simp; omega
      rw [h3.block k hk2 (fun e => by have : k = w.heap.size := by simpa using e
                                      omega)]
      exact hG0.block k hk (by simp)⟩
    have HE := hide (And.intro h2 (And.intro h4 hgw))
    have hnl : ∀ V, (binOp .eql 67 (.slice (some ⟨g, 0, none⟩) l.length cap) (.slice none 0 0)).run Try.prog V = .ok (.bool false) V := fun V => Lib.run_eql_slice_nil (P := Try.prog) V 67 5 (some ⟨g, 0, none⟩) l.length cap 0 0 Try.underlying67
    clear hown hE hG0 h2 h3 h4 hgw hg hcs htake
    go_enter Try.func41, Try.ntmps41
    have HAp := hide hap
    clear hap
    go_wp2_with (refine wp_run2 (by rfl) _ _ 67 67 (by rfl) _ _ v' w' (by rfl) (by rfl) (HAp.out _) ?_)
    go_ret
    exact ⟨_, rfl, HE.out.1, HE.out.2.1, HE.out.2.2⟩

set_option maxHeartbeats 1000000 in
/-- A change of which nothing had come. -/
theorem take_lost (w : World) (pk : Value) (c : Ch) : Calls Try.prog 40 #[pk, .agg c.cells.toArray, .int .i64 0] w fun e w' => e = .returned (.tuple #[]) ∧ w.grownBy w' none := by
  have HG := hide (World.grownBy_alloc w (.cells c.cells.toArray 75) none)
  go_enter Try.func40, Try.ntmps40
  go_wp2
  go_end0
  exact ⟨rfl, HG.out⟩
end Go.Proofs.Ytefcconbpomedaa
