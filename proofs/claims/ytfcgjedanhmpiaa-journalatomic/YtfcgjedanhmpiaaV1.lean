/- What is kept of a file has turned; a file is dropped. -/
import Derived.Test.YtfcgjedanhmpiaaM
namespace Go.Proofs.Ytfcgjedanhmpiaa
open Go.ChangeShapes Go.WideShapes Go.ChangeAt Go.RowKit
open Go.ChangeMaps (setBlock)
set_option linter.unusedVariables false

section
variable {w w' : World} {base b : Nat} {D : DS} {who : Nat → Nat}

/-- What is kept of one file has turned. -/
theorem Rep.setK (R : Rep w base b D who) {f0 : FL} (hf0 : f0 ∈ D.fs) (v' : Value) (l' : List UInt8) (hv : ∀ g, v'.ownBlock = some g → f0.kv.ownBlock = some g ∨ w.heap.size ≤ g)
    (h' : Only (f0.eb :: f0.kv.ownBlock.toList) w w') (hb : Blk w' f0.eb #[f0.sv, v'] 103) (ho : Own w' base v' l') :
    Rep w' base b { D with fs := upd D.fs f0.born fun f => { f with kv := v', kept := l' } } (fun k => if v'.ownBlock = some k then 5 + 3 * f0.born else who k) := by
  have hwf := R.we f0 hf0
  have ng : ∀ k, k < w.heap.size → who k ≠ 5 + 3 * f0.born → ¬ v'.ownBlock = some k := fun k hk h2 e => by
    rcases hv k e with hg | hg
    · rw [R.wk f0 hf0 k hg] at h2; exact h2 rfl
    · omega
  have nS : ∀ k, who k ≠ 3 + 3 * f0.born → who k ≠ 5 + 3 * f0.born → k ∉ f0.eb :: f0.kv.ownBlock.toList := fun k h0 h2 hm => by
    rcases List.mem_cons.1 hm with rfl | hm
    · exact h0 hwf
    · exact h2 (R.wk f0 hf0 k (by simpa using hm))
  have key : ∀ f' ∈ upd D.fs f0.born (fun f => { f with kv := v', kept := l' }), (f' = { f0 with kv := v', kept := l' }) ∨ (f' ∈ D.fs ∧ f'.born ≠ f0.born) := fun f' hf' => by
    obtain ⟨f, hf, ⟨e, rfl⟩ | ⟨e, rfl⟩⟩ := mem_upd hf'
    · have : f = f0 := FL.inj R.nodup hf hf0 e
      subst this; exact .inl rfl
    · exact .inr ⟨hf, e⟩
  refine
    { blk := h'.blk R.blk (nS _ (by rw [R.wb]; omega) (by rw [R.wb]; omega))
      map := by
        show w'.heap[D.mb]? = some (.map (ents (upd D.fs f0.born _)) D.clock)
        rw [ents_upd (g := fun f => { f with kv := v', kept := l' }) (fun f => rfl)]; exact h'.blk R.map (nS _ (by rw [R.wm]; omega) (by rw [R.wm]; omega))
      born := fun f' hf' => by
        rcases key f' hf' with rfl | ⟨hf, _⟩
        · exact R.born f0 hf0
        · exact R.born f' hf
      nodup := by show ((upd D.fs f0.born _).map (·.born)).Nodup; rw [born_upd (g := fun f => { f with kv := v', kept := l' }) (fun f => rfl)]; exact R.nodup
      ent := fun f' hf' => by
        rcases key f' hf' with rfl | ⟨hf, e⟩
        · exact hb
        · exact h'.blk (R.ent f' hf) (nS _ (by rw [R.we f' hf]; omega) (by rw [R.we f' hf]; omega))
      osv := fun f' hf' => by
        rcases key f' hf' with rfl | ⟨hf, e⟩
        · exact ownsRow_only (R.osv f0 hf0) h' (fun k hk => nS _ (by rw [R.ws f0 hf0 k hk]; omega) (by rw [R.ws f0 hf0 k hk]; omega))
        · exact ownsRow_only (R.osv f' hf) h' (fun k hk => nS _ (by rw [R.ws f' hf k hk]; omega) (by rw [R.ws f' hf k hk]; omega))
      okv := fun f' hf' => by
        rcases key f' hf' with rfl | ⟨hf, e⟩
        · exact ho
        · exact ownsRow_only (R.okv f' hf) h' (fun k hk => nS _ (by rw [R.wk f' hf k hk]; omega) (by rw [R.wk f' hf k hk]; omega))
      ochs := ownsRow_only R.ochs h' (fun k hk => nS _ (by rw [R.wc k hk]; omega) (by rw [R.wc k hk]; omega))
      c64 := R.c64, lowb := R.lowb, lowm := R.lowm
      lowe := fun f' hf' => by
        rcases key f' hf' with rfl | ⟨hf, _⟩
        · exact R.lowe f0 hf0
        · exact R.lowe f' hf
      wb := by rw [if_neg (ng b R.blk.lt (by rw [R.wb]; omega))]; exact R.wb
      wm := by show (if v'.ownBlock = some D.mb then _ else who D.mb) = 1; rw [if_neg (ng _ R.mlt (by rw [R.wm]; omega))]; exact R.wm
      wc := fun k hk => by rw [if_neg (ng _ (own_lt R.ochs k hk).2 (by rw [R.wc k hk]; omega))]; exact R.wc k hk
      we := fun f' hf' => by
        rcases key f' hf' with rfl | ⟨hf, e⟩
        · show (if v'.ownBlock = some f0.eb then _ else who f0.eb) = _; rw [if_neg (ng _ (R.ent f0 hf0).lt (by rw [hwf]; omega))]; exact hwf
        · rw [if_neg (ng _ (R.ent f' hf).lt (by rw [R.we f' hf]; omega))]; exact R.we f' hf
      ws := fun f' hf' k hk => by
        rcases key f' hf' with rfl | ⟨hf, e⟩
        · have hk' : f0.sv.ownBlock = some k := hk
          rw [if_neg (ng _ (own_lt (R.osv f0 hf0) k hk').2 (by rw [R.ws f0 hf0 k hk']; omega))]; exact R.ws f0 hf0 k hk'
        · rw [if_neg (ng _ (own_lt (R.osv f' hf) k hk).2 (by rw [R.ws f' hf k hk]; omega))]; exact R.ws f' hf k hk
      wk := fun f' hf' k hk => by
        rcases key f' hf' with rfl | ⟨hf, e⟩
        · have hk' : v'.ownBlock = some k := hk
          rw [if_pos hk']
        · rw [if_neg (ng _ (own_lt (R.okv f' hf) k hk).2 (by rw [R.wk f' hf k hk]; omega))]; exact R.wk f' hf k hk }

/-- A file is dropped. -/
theorem Rep.delF (R : Rep w base b D who) (fs : List FL) (hs : ∀ f ∈ fs, f ∈ D.fs) (hn : (fs.map (·.born)).Nodup) (h' : Only [D.mb] w w') (hm : w'.heap[D.mb]? = some (.map (ents fs) D.clock)) :
    Rep w' base b { D with fs := fs } who := by
  have nS : ∀ k, who k ≠ 1 → k ∉ [D.mb] := fun k h0 hm => by simp at hm; rw [hm] at h0; exact h0 R.wm
  exact
    { blk := h'.blk R.blk (nS _ (by rw [R.wb]; omega)), map := hm
      born := fun f hf => R.born f (hs f hf), nodup := hn
      ent := fun f hf => h'.blk (R.ent f (hs f hf)) (nS _ (by rw [R.we f (hs f hf)]; omega))
      osv := fun f hf => ownsRow_only (R.osv f (hs f hf)) h' (fun k hk => nS _ (by rw [R.ws f (hs f hf) k hk]; omega))
      okv := fun f hf => ownsRow_only (R.okv f (hs f hf)) h' (fun k hk => nS _ (by rw [R.wk f (hs f hf) k hk]; omega))
      ochs := ownsRow_only R.ochs h' (fun k hk => nS _ (by rw [R.wc k hk]; omega))
      c64 := R.c64, lowb := R.lowb, lowm := R.lowm, lowe := fun f hf => R.lowe f (hs f hf), wb := R.wb, wm := R.wm, wc := R.wc
      we := fun f hf => R.we f (hs f hf), ws := fun f hf => R.ws f (hs f hf), wk := fun f hf => R.wk f (hs f hf) }
end
end Go.Proofs.Ytfcgjedanhmpiaa
