/- slices.Clone of bytes; what is seen has turned; a change that is lost. -/
/- A disk is started again: the plain part, and what memory keeps. -/
/- A disk is started again, nothing of its changes having come. -/
import Derived.Test.YteocmhbllckpjaaGreatV8
import Derived.Lib.SliceRun
namespace Go.Proofs.YteocmhbllckpjaaGreat
open Go.ChangeShapes Go.WideShapes Go.ChangeAt Go.RowKit
open Go.ChangeMaps (setBlock)
set_option linter.unusedVariables false

section
variable {w w' : World} {base b : Nat} {D : DS} {who : Nat → Nat}

/-- What is seen of one file has turned. -/
theorem Rep.setS2 (R : Rep w base b D who) {f0 : FL} (hf0 : f0 ∈ D.fs) (v' : Value) (l' : List UInt8) (hv : ∀ g, v'.ownBlock = some g → f0.sv.ownBlock = some g ∨ w.heap.size ≤ g)
    (h' : Only (f0.eb :: f0.sv.ownBlock.toList) w w') (hb : Blk w' f0.eb #[v', f0.kv] 119) (ho : Own w' base v' l') :
    Rep w' base b { D with fs := upd D.fs f0.born fun f => { f with sv := v', seen := l' } } (fun k => if v'.ownBlock = some k then 4 + 3 * f0.born else who k) := by
  have hwf := R.we f0 hf0
  have ng : ∀ k, k < w.heap.size → who k ≠ 4 + 3 * f0.born → ¬ v'.ownBlock = some k := fun k hk h2 e => by
    rcases hv k e with hg | hg
    · rw [R.ws f0 hf0 k hg] at h2; exact h2 rfl
    · omega
  have nS : ∀ k, who k ≠ 3 + 3 * f0.born → who k ≠ 4 + 3 * f0.born → k ∉ f0.eb :: f0.sv.ownBlock.toList := fun k h0 h2 hm => by
    rcases List.mem_cons.1 hm with rfl | hm
    · exact h0 hwf
    · exact h2 (R.ws f0 hf0 k (by simpa using hm))
  have key : ∀ f' ∈ upd D.fs f0.born (fun f => { f with sv := v', seen := l' }), (f' = { f0 with sv := v', seen := l' }) ∨ (f' ∈ D.fs ∧ f'.born ≠ f0.born) := fun f' hf' => by
    obtain ⟨f, hf, ⟨e, rfl⟩ | ⟨e, rfl⟩⟩ := mem_upd hf'
    · have : f = f0 := FL.inj R.nodup hf hf0 e
      subst this; exact .inl rfl
    · exact .inr ⟨hf, e⟩
  refine
    { blk := h'.blk R.blk (nS _ (by rw [R.wb]; omega) (by rw [R.wb]; omega))
      map := by
        show w'.heap[D.mb]? = some (.map (ents (upd D.fs f0.born _)) D.clock)
        rw [ents_upd (g := fun f => { f with sv := v', seen := l' }) (fun f => rfl)]; exact h'.blk R.map (nS _ (by rw [R.wm]; omega) (by rw [R.wm]; omega))
      born := fun f' hf' => by
        rcases key f' hf' with rfl | ⟨hf, _⟩
        · exact R.born f0 hf0
        · exact R.born f' hf
      nodup := by show ((upd D.fs f0.born _).map (·.born)).Nodup; rw [born_upd (g := fun f => { f with sv := v', seen := l' }) (fun f => rfl)]; exact R.nodup
      ent := fun f' hf' => by
        rcases key f' hf' with rfl | ⟨hf, e⟩
        · exact hb
        · exact h'.blk (R.ent f' hf) (nS _ (by rw [R.we f' hf]; omega) (by rw [R.we f' hf]; omega))
      osv := fun f' hf' => by
        rcases key f' hf' with rfl | ⟨hf, e⟩
        · exact ho
        · exact ownsRow_only (R.osv f' hf) h' (fun k hk => nS _ (by rw [R.ws f' hf k hk]; omega) (by rw [R.ws f' hf k hk]; omega))
      okv := fun f' hf' => by
        rcases key f' hf' with rfl | ⟨hf, e⟩
        · exact ownsRow_only (R.okv f0 hf0) h' (fun k hk => nS _ (by rw [R.wk f0 hf0 k hk]; omega) (by rw [R.wk f0 hf0 k hk]; omega))
        · exact ownsRow_only (R.okv f' hf) h' (fun k hk => nS _ (by rw [R.wk f' hf k hk]; omega) (by rw [R.wk f' hf k hk]; omega))
      ochs := ownsRow_only R.ochs h' (fun k hk => nS _ (by rw [R.wc k hk]; omega) (by rw [R.wc k hk]; omega))
      c64 := R.c64, lowb := R.lowb, lowm := R.lowm
      lowe := fun f' hf' => by
        rcases key f' hf' with rfl | ⟨hf, _⟩
        · exact R.lowe f0 hf0
        · exact R.lowe f' hf
      wb := by rw [if_neg (ng b R.blk.lt (by rw [R.wb]; omega))]; exact R.wb
      wm := by show (if v'.ownBlock = some D.mb then _ else who D.mb) = 1; rw [if_neg (ng _ R.mlt (by rw [R.wm]; omega))]; exact R.wm
      wc := fun k hk => by rw [if_neg (ng _ (own_lt R.ochs k hk).2 (by rw [R.wc k hk]; omega))]; exact R.wc k hk
      we := fun f' hf' => by
        rcases key f' hf' with rfl | ⟨hf, e⟩
        · show (if v'.ownBlock = some f0.eb then _ else who f0.eb) = _; rw [if_neg (ng _ (R.ent f0 hf0).lt (by rw [hwf]; omega))]; exact hwf
        · rw [if_neg (ng _ (R.ent f' hf).lt (by rw [R.we f' hf]; omega))]; exact R.we f' hf
      ws := fun f' hf' k hk => by
        rcases key f' hf' with rfl | ⟨hf, e⟩
        · have hk' : v'.ownBlock = some k := hk
          rw [if_pos hk']
        · rw [if_neg (ng _ (own_lt (R.osv f' hf) k hk).2 (by rw [R.ws f' hf k hk]; omega))]; exact R.ws f' hf k hk
      wk := fun f' hf' k hk => by
        rcases key f' hf' with rfl | ⟨hf, e⟩
        · have hk' : f0.kv.ownBlock = some k := hk
          rw [if_neg (ng _ (own_lt (R.okv f0 hf0) k hk').2 (by rw [R.wk f0 hf0 k hk']; omega))]; exact R.wk f0 hf0 k hk'
        · rw [if_neg (ng _ (own_lt (R.okv f' hf) k hk).2 (by rw [R.wk f' hf k hk]; omega))]; exact R.wk f' hf k hk }

end
theorem wp_run2 {ops : Array Oper} {rest : List Oper} {o : Oper} {a : Act} {Q : Exit → Act → World → Prop} {w : World} (hgd : o.guard = none) (sl x : Operand) (t u : TypeId)
    (ho : o.op = .call { callee := .builtin .append, args := #[sl, x], argTypes := #[t, u] }) (v xv v' : Value) (w' : World) (hs : a.eval sl = v) (hx : a.eval x = xv)
    (hr : (Builtin.append_ #[t, u] o.type #[v, xv]).run Tryz.prog w = .ok v' w') (h : wpList Tryz.prog ops Q rest (a.put o.dst v') w') : wpList Tryz.prog ops Q (o :: rest) a w := by
  refine wpList_plain hgd fun K hK => ?_
  unfold Oper.wp execOp
  simp only [ho, resolve, invoke, builtin, Sem.run_bind, Sem.run_pure, Result.andThen_ok, List.map_toArray, List.map_cons, List.map_nil, hs, hx, hr]
  exact hK _ _ h

theorem app_none (pv : Option Addr) (n cv : Nat) (hn : n ≤ cv) (p : Option Addr) (c : Nat) (ty : TypeId) (W : World) : (Builtin.append_ #[62, 62] ty #[.slice pv n cv, .slice p 0 c]).run Tryz.prog W = .ok (.slice pv n cv) W := by
  obtain ⟨i, hi, hz, hsz, hby⟩ := info5
  cases p <;> cases pv <;> simp [Builtin.append_, run_underlying Tryz.underlying62, sizeOf, typeInfo, hi, Builtin.lenOf, Builtin.firstCells, loadCells, loadCellsFrom, storeCells, hn]

set_option maxHeartbeats 1000000 in
set_option maxRecDepth 100000 in
theorem clone_any (w : World) (base : Nat) (v : Value) (l : List UInt8) (hown : Own w base v l) (hl : l.length ≤ 1048576) (hbase : base ≤ w.heap.size) :
    Calls Tryz.prog 54 #[v] w fun e w' => ∃ v', e = .returned v' ∧ Own w' base v' l ∧ (∀ g, v'.ownBlock = some g → w.heap.size ≤ g) ∧ w.grownBy w' none := by
  rcases hown.2 with ⟨rfl, hz⟩ | ⟨g, cap, cur, rfl, hbg, hg, hnc, hcm, hcs, htake⟩
  · have e1 : l = [] := List.length_eq_zero_iff.1 hz
    subst e1
    have hnl : ∀ V, (binOp .eql 62 (.slice none 0 0) (.slice none 0 0)).run Tryz.prog V = .ok (.bool true) V := fun V => Lib.run_eql_slice_nil (P := Tryz.prog) V 62 5 none 0 0 0 0 Tryz.underlying62
    clear hown
    go_enter Tryz.func54, Tryz.ntmps54
    go_wp2
    go_ret
    exact ⟨_, rfl, World.ownsRow_nil _ _ _ _, (fun g h => by cases h), ⟨rfl, rfl, rfl, Nat.le_refl _, fun _ _ _ => rfl⟩⟩
  · have hG0 := World.grownBy_alloc w (.cells #[] 5) none
    have hE : (w.alloc (.cells #[] 5)).ownsRow w.heap.size 5 1 (.slice (some ⟨w.heap.size, 0, none⟩) 0 0) 0 [] := ⟨rfl, .inr ⟨w.heap.size, 0, #[], rfl, Nat.le_refl _, alloc_new _ _, Nat.le_refl _, Nat.zero_le _, rfl, rfl⟩⟩
    obtain ⟨v', w', hap, h2, h3, h4⟩ : ∃ v' w', (∀ ty, (Builtin.append_ #[62, 62] ty #[.slice (some ⟨w.heap.size, 0, none⟩) 0 0, .slice (some ⟨g, 0, none⟩) l.length cap]).run Tryz.prog (w.alloc (.cells #[] 5)) = .ok v' w') ∧ Own w' base v' l ∧ (w.alloc (.cells #[] 5)).grownBy w' (some w.heap.size) ∧ ∀ k, v'.ownBlock = some k → w.heap.size ≤ k := by
      by_cases h0 : l.length = 0
      · have e1 : l = [] := List.length_eq_zero_iff.1 h0
        subst e1
        exact ⟨_, _, fun ty => app_none _ 0 0 (Nat.le_refl _) _ _ ty _, ownsRow_base hE hbase, ⟨rfl, rfl, rfl, Nat.le_refl _, fun _ _ _ => rfl⟩, fun k hk => by cases hk; exact Nat.le_refl _⟩
      · obtain ⟨i, hi, hz, hsz, hby⟩ := info5
        have hc := hown.cells (g := g) rfl
        have key := fun ty => app_own (P := Tryz.prog) (w.alloc (.cells #[] 5)) w.heap.size 62 ty 5 i _ 1 1 Tryz.underlying62 hi hz hsz hby rfl (by omega) (.slice (some ⟨w.heap.size, 0, none⟩) 0 0) 0 [] hE ⟨g, 0, none⟩ l.length cap (by omega) (bcs l) (by rw [length_bcs, Nat.mul_one]) (fun j u hj => (World.grownBy_alloc w _ none).cell (hc j u hj) (by simp)) (one_bcs l) (by simp only [maxLen]; omega) (by omega) (by simp)
        obtain ⟨v', w', hrun, ho, hg', q, hq, hqq⟩ := key 0
        refine ⟨v', w', fun ty => ?_, ?_, hg', fun k hk => ?_⟩
        · exact hrun
        · have := ownsRow_base ho hbase
          simpa using this
        · rw [hq] at hk
          cases hk
          rcases hqq with h | h
          · cases h; exact Nat.le_refl _
          · simp at h; omega
    have hgw : w.grownBy w' none := ⟨h3.os.trans hG0.os, h3.tape.trans hG0.tape, h3.output.trans hG0.output, Nat.le_trans hG0.size h3.size, fun k hk _ => by
      have hk2 : k < (w.alloc (.cells #[] 5)).heap.size := by simp; omega
      rw [h3.block k hk2 (fun e => by have : k = w.heap.size := by simpa using e
                                      omega)]
      exact hG0.block k hk (by simp)⟩
    have HE := hide (And.intro h2 (And.intro h4 hgw))
    have hnl : ∀ V, (binOp .eql 62 (.slice (some ⟨g, 0, none⟩) l.length cap) (.slice none 0 0)).run Tryz.prog V = .ok (.bool false) V := fun V => Lib.run_eql_slice_nil (P := Tryz.prog) V 62 5 (some ⟨g, 0, none⟩) l.length cap 0 0 Tryz.underlying62
    clear hown hE hG0 h2 h3 h4 hgw hg hcs htake
    go_enter Tryz.func54, Tryz.ntmps54
    have HAp := hide hap
    clear hap
    go_wp2_with (refine wp_run2 (by rfl) _ _ 62 62 (by rfl) _ _ v' w' (by rfl) (by rfl) (HAp.out _) ?_)
    go_ret
    exact ⟨_, rfl, HE.out.1, HE.out.2.1, HE.out.2.2⟩

set_option maxHeartbeats 1000000 in
/-- A change of which nothing had come. -/
theorem take_lost (w : World) (pk : Value) (c : Ch) : Calls Tryz.prog 53 #[pk, .agg c.cells.toArray, .int .i64 0] w fun e w' => e = .returned (.tuple #[]) ∧ w.grownBy w' none := by
  have HG := hide (World.grownBy_alloc w (.cells c.cells.toArray 112) none)
  go_enter Tryz.func53, Tryz.ntmps53
  go_wp2
  go_end0
  exact ⟨rfl, HG.out⟩
end Go.Proofs.YteocmhbllckpjaaGreat

namespace Go.Proofs.YteocmhbllckpjaaGreat
open Go.ChangeShapes Go.WideShapes Go.ChangeAt Go.RowKit
open Go.ChangeMaps (setBlock)
set_option linter.unusedVariables false

/-- Each file is found by its name. -/
def Uniq (fs : List FL) : Prop := ∀ f ∈ fs, look fs f.name = some f
theorem name_eq {a b : ByteArray} (h : (a == b) = true) : a = b := by
  have h1 : (a.data == b.data) = true := h
  have h2 := eq_of_beq h1
  cases a; cases b; simp_all
theorem look_some {fs : List FL} {nm : ByteArray} {f : FL} (h : look fs nm = some f) : f ∈ fs ∧ nm = f.name := by
  refine ⟨List.mem_of_find?_eq_some h, ?_⟩
  have := List.find?_some h
  exact name_eq this
theorem look_mem {fs : List FL} {f : FL} (h : f ∈ fs) : ∃ g, look fs f.name = some g := by
  cases hl : look fs f.name with
  | some g => exact ⟨g, rfl⟩
  | none =>
    have := List.find?_eq_none.1 hl f h
    exact absurd (bytes_beq f.name) this
theorem Uniq.sub {fs gs : List FL} (h : Uniq fs) (hs : ∀ f ∈ gs, f ∈ fs) : Uniq gs := fun f hf => by
  obtain ⟨g, hg⟩ := look_mem hf
  obtain ⟨h1, h2⟩ := look_some hg
  have e1 := h f (hs f hf)
  have e2 := h g (hs g h1)
  rw [h2] at e1
  rw [e1] at e2
  cases e2
  rw [← h2]
  exact hg
theorem Uniq.upd {fs : List FL} (h : Uniq fs) (i : Nat) (g : FL → FL) (hg : ∀ f, (g f).name = f.name) : Uniq (upd fs i g) := by
  have key : ∀ nm, look (Go.Proofs.YteocmhbllckpjaaGreat.upd fs i g) nm = (look fs nm).map (fun f => if f.born = i then g f else f) := fun nm => by
    unfold look Go.Proofs.YteocmhbllckpjaaGreat.upd
    rw [List.find?_map]
    congr 1
    congr 1
    funext x
    simp only [Function.comp]
    split
    · rw [hg]
    · rfl
  intro f hf
  unfold Go.Proofs.YteocmhbllckpjaaGreat.upd at hf
  obtain ⟨x, hx, rfl⟩ := List.mem_map.1 hf
  rw [key]
  have hn : (if x.born = i then g x else x).name = x.name := by split; exact hg x; rfl
  rw [hn, h x hx]
  rfl
/-- Between two rounds over the files. -/
structure RestI (D Dk : DS) (seen : Array Nat) : Prop where
  same : Dk.mb = D.mb ∧ Dk.clock = D.clock ∧ Dk.cv = D.cv ∧ Dk.chs = D.chs ∧ Dk.room = D.room ∧ Dk.fuse = D.fuse ∧ Dk.steps = D.steps ∧ Dk.starts = D.starts ∧ Dk.down = D.down
  from_ : ∀ f ∈ Dk.fs, ∃ f0 ∈ D.fs, f0.born = f.born ∧ f0.name = f.name ∧ f0.kept = f.kept
  done_ : ∀ f ∈ Dk.fs, seen.contains f.born = true → f.seen = f.kept ∧ f.kept ≠ []
  all_ : ∀ f0 ∈ D.fs, f0.kept ≠ [] → ∃ f ∈ Dk.fs, f.born = f0.born
  uniq : Uniq Dk.fs
theorem contains_push {s : Array Nat} {a x : Nat} (h : (s.push a).contains x = true) : s.contains x = true ∨ x = a := by
  simpa using h
theorem RestI.step {D Dk : DS} {seen : Array Nat} (h : RestI D Dk seen) (hnD : (D.fs.map (·.born)).Nodup) (hn : (Dk.fs.map (·.born)).Nodup) {f : FL} (hf : f ∈ Dk.fs) (v : Value) :
    RestI D (forgetD { Dk with fs := upd Dk.fs f.born fun x => { x with sv := v, seen := f.kept } } f.name) (seen.push f.born) := by
  have hlk : look (upd Dk.fs f.born fun x => { x with sv := v, seen := f.kept }) f.name = some { f with sv := v, seen := f.kept } := look_upd hn (h.uniq f hf) (fun x => { x with sv := v, seen := f.kept }) (fun _ => rfl)
  have hU := h.uniq.upd f.born (fun x => { x with sv := v, seen := f.kept }) (fun _ => rfl)
  have key : ∀ f' ∈ upd Dk.fs f.born (fun x => { x with sv := v, seen := f.kept }), (f' = { f with sv := v, seen := f.kept }) ∨ (f' ∈ Dk.fs ∧ f'.born ≠ f.born) := fun f' hf' => by
    obtain ⟨x, hx, ⟨e, rfl⟩ | ⟨e, rfl⟩⟩ := mem_upd hf'
    · have : x = f := FL.inj hn hx hf e
      subst this; exact .inl rfl
    · exact .inr ⟨hx, e⟩
  have hfl : flen { Dk with fs := upd Dk.fs f.born fun x => { x with sv := v, seen := f.kept } } f.name = f.kept.length := by
    unfold flen
    rw [hlk]
    rfl
  have hfrom : ∀ f' ∈ upd Dk.fs f.born (fun x => { x with sv := v, seen := f.kept }), ∃ f0 ∈ D.fs, f0.born = f'.born ∧ f0.name = f'.name ∧ f0.kept = f'.kept := fun f' hf' => by
    rcases key f' hf' with rfl | ⟨hx, _⟩
    · exact h.from_ f hf
    · exact h.from_ f' hx
  have hall : ∀ f0 ∈ D.fs, f0.kept ≠ [] → ∃ f' ∈ upd Dk.fs f.born (fun x => { x with sv := v, seen := f.kept }), f'.born = f0.born := fun f0 h0 hk => by
    obtain ⟨x, hx, e⟩ := h.all_ f0 h0 hk
    by_cases e2 : x.born = f.born
    · exact ⟨_, mem_upd_self hf (fun x => { x with sv := v, seen := f.kept }), by rw [← e, e2]⟩
    · refine ⟨x, ?_, e⟩
      unfold upd
      exact List.mem_map.2 ⟨x, hx, by rw [if_neg e2]⟩
  unfold forgetD
  rw [hfl]
  by_cases h0 : f.kept.length = 0
  · rw [if_pos h0]
    dsimp only
    rw [hlk]
    have hk0 : f.kept = [] := List.length_eq_zero_iff.1 h0
    refine ⟨h.same, fun f' hf' => ?_, fun f' hf' hs => ?_, fun f0 hm hk => ?_, ?_⟩
    · exact hfrom f' (List.mem_filter.1 hf').1
    · obtain ⟨h1, h2⟩ := List.mem_filter.1 hf'
      have hb : f'.born ≠ f.born := by simpa using h2
      rcases key f' h1 with rfl | ⟨hx, _⟩
      · exact absurd rfl hb
      · rcases contains_push hs with h3 | h3
        · exact h.done_ f' hx h3
        · exact absurd h3 hb
    · obtain ⟨f', h1, h2⟩ := hall f0 hm hk
      refine ⟨f', List.mem_filter.2 ⟨h1, ?_⟩, h2⟩
      obtain ⟨f1, h3, h4, h5, h6⟩ := hfrom f' h1
      have hb : f'.born ≠ f.born := fun e => by
        obtain ⟨f2, g3, g4, g5, g6⟩ := h.from_ f hf
        have e0 : f2 = f0 := FL.inj hnD g3 hm (by rw [g4, ← h2, e])
        rw [e0] at g6
        exact hk (g6.trans hk0)
      simpa using hb
    · exact hU.sub (fun x hx => (List.mem_filter.1 hx).1)
  · rw [if_neg h0]
    have hk0 : f.kept ≠ [] := fun e => h0 (by rw [e]; rfl)
    refine ⟨h.same, hfrom, fun f' hf' hs => ?_, hall, hU⟩
    rcases key f' hf' with rfl | ⟨hx, hb⟩
    · exact ⟨rfl, hk0⟩
    · rcases contains_push hs with h3 | h3
      · exact h.done_ f' hx h3
      · exact absurd h3 hb
end Go.Proofs.YteocmhbllckpjaaGreat

namespace Go.Proofs.YteocmhbllckpjaaGreat
open Go.ChangeShapes Go.WideShapes Go.ChangeAt Go.RowKit
open Go.ChangeMaps (setBlock)
set_option linter.unusedVariables false

section
variable {w w' : World} {base b : Nat} {D : DS} {who : Nat → Nat}
/-- A walk over the map is none of the disk's blocks. -/
theorem Rep.iter (R : Rep w base b D who) {I : Nat} {m : Option Nat} {x y : Nat} {s : Array Nat} (hi : w.heap[I]? = some (.mapIter m x s y)) (h : Only [I] w w') : Rep w' base b D who := by
  have hn : ∀ k c t, Blk w k c t → k ∉ [I] := fun k c t hk he => by
    have e : k = I := by simpa using he
    have hk' : w.heap[k]? = some (.cells c t (0, 0)) := hk
    rw [e, hi] at hk'
    cases hk'
  have hm : D.mb ∉ [I] := fun he => by
    have e : D.mb = I := by simpa using he
    have hk' := R.map
    rw [e, hi] at hk'
    cases hk'
  have ho : ∀ {e : TypeId} {size : Nat} {v : Value} {n : Nat} {xs : List Value}, w.ownsRow base e size v n xs → ∀ g, v.ownBlock = some g → g ∉ [I] := fun hr g hg => by
    rcases hr.2 with ⟨hv, _⟩ | ⟨g', cap, cur, hv, _, hgb, _⟩
    · rw [hv] at hg; cases hg
    · rw [hv] at hg
      have e : g' = g := by simpa [Value.ownBlock] using hg
      subst e
      exact hn _ _ _ hgb
  exact R.only h (hn _ _ _ R.blk) hm (ho R.ochs) (fun f hf => hn _ _ _ (R.ent f hf)) (fun f hf => ho (R.osv f hf)) (fun f hf => ho (R.okv f hf))
theorem Rep.iterKept (R : Rep w base b D who) {I : Nat} {m : Option Nat} {x y : Nat} {s : Array Nat} (hi : w.heap[I]? = some (.mapIter m x s y)) {f : FL} (hf : f ∈ D.fs) : I ≠ f.eb ∧ I ≠ D.mb := by
  refine ⟨fun e => ?_, fun e => ?_⟩
  · have hk' : w.heap[f.eb]? = some (.cells #[f.sv, f.kv] 119 (0, 0)) := R.ent f hf
    rw [← e, hi] at hk'
    cases hk'
  · have hk' := R.map
    rw [← e, hi] at hk'
    cases hk'
theorem Rep.setS3 (R : Rep w base b D who) {w3 : World} (hg : w.grownBy w3 none) {f0 : FL} (hf0 : f0 ∈ D.fs) (v' : Value) (l' : List UInt8) (hv : ∀ g, v'.ownBlock = some g → w.heap.size ≤ g) (hb : Blk (w3.setCell ⟨f0.eb, 0, none⟩ v') f0.eb #[v', f0.kv] 119) (ho : Own (w3.setCell ⟨f0.eb, 0, none⟩ v') base v' l') :
    ∃ who', Rep (w3.setCell ⟨f0.eb, 0, none⟩ v') base b { D with fs := upd D.fs f0.born fun f => { f with sv := v', seen := l' } } who' := by
  have hO : Only (f0.eb :: f0.sv.ownBlock.toList) w (w3.setCell ⟨f0.eb, 0, none⟩ v') := ((Only.of_grown hg).mono (by simp)).trans ((Only.setCell w3 ⟨f0.eb, 0, none⟩ v').mono (by simp))
  exact ⟨_, R.setS2 hf0 v' l' (fun g hg => .inr (hv g hg)) hO hb ho⟩
/-- A disk that was started again. -/
def restD (D : DS) : DS := { D with cv := .slice none 0 0, chs := [], fuse := 0, steps := 0, starts := D.starts + 1, down := false }
theorem Rep.reset (R : Rep w base b D who) (h : Only [b] w w') (hb : Blk w' b (restD D).cells 76) : Rep w' base b (restD D) who := by
  have nb : ∀ g, who g ≠ 0 → g ∉ [b] := fun g hg he => by simp at he; rw [he, R.wb] at hg; exact hg rfl
  exact
    { blk := hb, map := h.blk R.map (nb _ (by show who D.mb ≠ 0; rw [R.wm]; omega)), born := R.born, nodup := R.nodup
      ent := fun f hf => h.blk (R.ent f hf) (nb _ (by rw [R.we f hf]; omega))
      osv := fun f hf => ownsRow_only (R.osv f hf) h (fun g hg => nb _ (by rw [R.ws f hf g hg]; omega))
      okv := fun f hf => ownsRow_only (R.okv f hf) h (fun g hg => nb _ (by rw [R.wk f hf g hg]; omega))
      ochs := World.ownsRow_nil _ _ _ _, c64 := fun c hc => by cases hc
      lowb := R.lowb, lowm := R.lowm, lowe := R.lowe, wb := R.wb, wm := R.wm, wc := (fun g hg => by cases hg), we := R.we, ws := R.ws, wk := R.wk }
end
theorem left_mem {es : Array MapEntry} {seen : Array Nat} {e : MapEntry} (h1 : e ∈ es.toList) (h2 : seen.contains e.born = false) : e ∈ (leftOf es seen).toList := by
  simp only [leftOf, Array.toList_filter, List.mem_filter]
  exact ⟨h1, by rw [h2]; rfl⟩
/-- What Restart makes of a disk. -/
structure Restd (D D' : DS) : Prop where
  chs : D'.chs = []
  fuse : D'.fuse = 0
  steps : D'.steps = 0
  down : D'.down = false
  starts : D'.starts = D.starts + 1
  room : D'.room = D.room
  each : ∀ f ∈ D'.fs, f.seen = f.kept ∧ f.kept ≠ [] ∧ ∃ f0 ∈ D.fs, f0.born = f.born ∧ f0.name = f.name ∧ f0.kept = f.kept
  all_ : ∀ f0 ∈ D.fs, f0.kept ≠ [] → ∃ f ∈ D'.fs, f.born = f0.born
  uniq : Uniq D'.fs

set_option maxHeartbeats 8000000 in
set_option maxRecDepth 100000 in
theorem restart_nil (w : World) (base b : Nat) (D : DS) (who : Nat → Nat) (R : Rep w base b D who) (S : Sane D) (hU : Uniq D.fs) (hdn : D.down = true) (hst : 0 ≤ D.starts ∧ D.starts ≤ 2000000) :
    Calls Tryz.prog 26 #[.pointer (some ⟨b, 0, none⟩), .slice none 0 0] w fun e w' => e = .returned (.int .i64 0) ∧ Below base w w' ∧ ∃ D' who', Rep w' base b D' who' ∧ Restd D D' := by
  have HM := hide (made_rep w base b D who R)
  obtain ⟨a, cap, hcv⟩ := ownsRow_form R.ochs
  have h1c : w.cell? ⟨b, 1, none⟩ = some (.slice a D.chs.length cap) := by rw [R.blk.cell 1, ← hcv]; rfl
  have h6c : w.cell? ⟨b, 6, none⟩ = some (.bool true) := by rw [R.blk.cell 6, ← hdn]; rfl
  have HR := hide R
  have HCV := hide hcv
  have HS := hide S
  have H64 := hide R.c64
  have HU := hide hU
  have HSt0 := hide hst
  obtain ⟨d75, hu75, hr75⟩ := u75
  clear R S hcv hU hst hdn
  go_enter Tryz.func26, Tryz.ntmps26
  go_upto_region 6 with (first
    | (go_at_call 37; refine Calls.mono HM.out ?_; rintro e w1 ⟨rfl, rfl⟩))
  go_loopw [23] (fun jv wr => ∃ (j : Nat), j ≤ D.chs.length ∧ jv = .int .i64 (j : Int) ∧ w.grownBy wr none) (fun jv _ => D.chs.length - (intOf jv).toNat)
  case atStart => exact ⟨0, Nat.zero_le _, rfl, ⟨rfl, rfl, rfl, Nat.le_refl _, fun _ _ _ => rfl⟩⟩
  case round =>
    obtain ⟨j, hj, rfl, hgj⟩ := hrel
    have HRj := hide (HR.out.keep hgj)
    have HGj := hide hgj
    clear hgj
    by_cases hlt : j < D.chs.length
    · obtain ⟨c, hc⟩ : ∃ c, D.chs[j]? = some c := ⟨D.chs[j], List.getElem?_eq_getElem hlt⟩
      have hcm := List.mem_of_getElem? hc
      have H6 := hide (H64.out c hcm)
      obtain ⟨f, hlk⟩ := HS.out.nm c hcm
      have HLk := hide hlk
      have hg : ∃ g, a = some ⟨g, 0, none⟩ ∧ wr.rangeAt g (j * 67) c.cells := by
        have ho : wr.ownsRow base 112 67 D.cv D.chs.length (chcells D.chs) := HRj.out.ochs
        rw [HCV.out] at ho
        rcases ho.2 with ⟨hv, hz⟩ | ⟨g, cap', cur, hv, _⟩
        · omega
        · cases hv
          exact ⟨g, rfl, chs_range ho H64.out hc⟩
      obtain ⟨g, rfl, hrg⟩ := hg
      have HRg := hide hrg
      have HZ := hide (show (wr.alloc (.cells Tryz.zeroCells112 112)).heap[wr.heap.size]? = some (.cells Tryz.zeroCells112 112 (0, 0)) from alloc_new _ _)
      have l1 : (j : Int) < (D.chs.length : Int) := by omega
      have l0 : (0 : Int) ≤ (j : Int) := by omega
      have l2 : ¬ (j : Int) < 0 := by omega
      have hw1 : IntKind.i64.wrap ((j : Int) + 1) = (j : Int) + 1 := by rw [IntKind.wrap_i64]; have := HS.out.few; omega
      clear hc hcm hrg hlk
      go_upto_region 11 with (first
        | (refine wp_loadC H6.out HRg.out _ (by rfl) (by rfl) (by rfl) ?_)
        | (refine wp_storeC H6.out zeros75_size HZ.out _ _ (by rfl) (by rfl) (by rfl) (by rfl) ?_; intro W2 hB2 hO2; have HB2 := hide hB2; have HO2 := hide hO2; clear hB2 hO2))
      have HR2 := hide (HRj.out.fresh HO2.out)
      have hg2 : w.grownBy W2 none := ⟨HO2.out.os.trans HGj.out.os, HO2.out.tape.trans HGj.out.tape, HO2.out.output.trans HGj.out.output, Nat.le_trans HGj.out.size (Nat.le_trans (by simp) HO2.out.size), fun k hk _ => by
        have h1 := Nat.lt_of_lt_of_le hk HGj.out.size
        rw [HO2.out.block k (by simp; omega) (by simp; omega), Below.heap_alloc _ _ _ h1, HGj.out.block k hk (by simp)]⟩
      have HG2 := hide hg2
      have HSt : Hid (∀ V, W2.drew.grownBy V none → V.cell? ⟨b, 0, none⟩ = some (.map (some D.mb)) ∧ V.cell? ⟨wr.heap.size, 0, none⟩ = some (.string c.name) ∧ V.heap[D.mb]? = some (.map (ents D.fs) D.clock) ∧ V.rangeAt wr.heap.size 0 c.cells) := fun V hV => by
        have R2 := HR2.out.drew.keep hV
        have b4 : Blk V wr.heap.size c.cells.toArray 112 := (hV.block _ HB2.out.lt (by simp)).trans HB2.out
        exact ⟨(R2.blk.cell 0).trans rfl, (b4.cell 0).trans (chg_get c).2.2.1, R2.map, b4.range⟩
      refine wp_region_held_drew (S := fun V => V.cell? ⟨b, 0, none⟩ = some (.map (some D.mb)) ∧ V.cell? ⟨wr.heap.size, 0, none⟩ = some (.string c.name) ∧ V.heap[D.mb]? = some (.map (ents D.fs) D.clock) ∧ V.rangeAt wr.heap.size 0 c.cells) (by kernel_rfl) (HSt.out _ ⟨rfl, rfl, rfl, Nat.le_refl _, fun _ _ _ => rfl⟩) ?_
      intro hHeld
      refine wpAnyH_take (i := 0) (v := .pointer (some ⟨b, 0, none⟩)) rfl (by kernel_rfl) (by kernel_rfl) (by kernel_rfl) (fun _ _ _ h => h) (Or.inl ⟨by rfl, fun V hV => by (obtain ⟨f1, f2, f3, f4⟩ := hV; go_simp)⟩) hHeld ?_
      try simp only [Act.put, List.getElem_toArray, List.getElem_cons_zero, List.setIfInBounds_toArray, List.set_cons_zero, List.set_cons_succ]
      refine wpAnyH_take (i := 1) (v := .pointer (some ⟨b, 0, none⟩)) rfl (by kernel_rfl) (by kernel_rfl) (by kernel_rfl) (fun _ _ _ h => h) (Or.inl ⟨by rfl, fun V hV => by (obtain ⟨f1, f2, f3, f4⟩ := hV; go_simp)⟩) hHeld ?_
      try simp only [Act.put, List.getElem_toArray, List.getElem_cons_succ, List.getElem_cons_zero, List.setIfInBounds_toArray, List.set_cons_zero, List.set_cons_succ]
      refine wpAnyH_take (i := 2) (v := .pointer (some ⟨b, 0, none⟩)) rfl (by kernel_rfl) (by kernel_rfl) (by kernel_rfl) (fun _ _ _ h => h) (Or.inl ⟨by rfl, fun V hV => by (obtain ⟨f1, f2, f3, f4⟩ := hV; go_simp)⟩) hHeld ?_
      try simp only [Act.put, List.getElem_toArray, List.getElem_cons_succ, List.getElem_cons_zero, List.setIfInBounds_toArray, List.set_cons_zero, List.set_cons_succ]
      refine wpAnyH_take (i := 3) (v := .map (some D.mb)) rfl (by kernel_rfl) (by kernel_rfl) (by kernel_rfl) (fun _ _ _ h => h) (Or.inl ⟨by rfl, fun V hV => by (obtain ⟨f1, f2, f3, f4⟩ := hV; go_simp)⟩) hHeld ?_
      try simp only [Act.put, List.getElem_toArray, List.getElem_cons_succ, List.getElem_cons_zero, List.setIfInBounds_toArray, List.set_cons_zero, List.set_cons_succ]
      refine wpAnyH_take (i := 4) (v := .pointer (some ⟨wr.heap.size, 0, none⟩)) rfl (by kernel_rfl) (by kernel_rfl) (by kernel_rfl) (fun _ _ _ h => h) (Or.inl ⟨by rfl, fun V hV => by (obtain ⟨f1, f2, f3, f4⟩ := hV; go_simp)⟩) hHeld ?_
      try simp only [Act.put, List.getElem_toArray, List.getElem_cons_succ, List.getElem_cons_zero, List.setIfInBounds_toArray, List.set_cons_zero, List.set_cons_succ]
      refine wpAnyH_take (i := 5) (v := .string c.name) rfl (by kernel_rfl) (by kernel_rfl) (by kernel_rfl) (fun _ _ _ h => h) (Or.inl ⟨by rfl, fun V hV => by (obtain ⟨f1, f2, f3, f4⟩ := hV; go_simp)⟩) hHeld ?_
      try simp only [Act.put, List.getElem_toArray, List.getElem_cons_succ, List.getElem_cons_zero, List.setIfInBounds_toArray, List.set_cons_zero, List.set_cons_succ]
      refine wpAnyH_take (i := 6) (v := .pointer (some ⟨f.eb, 0, none⟩)) rfl (by kernel_rfl) (by kernel_rfl) (by kernel_rfl) (fun _ _ _ h => h) (Or.inl ⟨by rfl, fun V hV => by (obtain ⟨f1, f2, f3, f4⟩ := hV; have hlk := look_run V D.mb _ D.clock c.name f3; rw [HLk.out] at hlk; simp only [Option.map_some] at hlk; go_simp)⟩) hHeld ?_
      try simp only [Act.put, List.getElem_toArray, List.getElem_cons_succ, List.getElem_cons_zero, List.setIfInBounds_toArray, List.set_cons_zero, List.set_cons_succ]
      refine wpAnyH_take (i := 7) (v := .pointer (some ⟨f.eb, 0, none⟩)) rfl (by kernel_rfl) (by kernel_rfl) (by kernel_rfl) (fun _ _ _ h => h) (Or.inl ⟨by rfl, fun V hV => by (obtain ⟨f1, f2, f3, f4⟩ := hV; go_simp)⟩) hHeld ?_
      try simp only [Act.put, List.getElem_toArray, List.getElem_cons_succ, List.getElem_cons_zero, List.setIfInBounds_toArray, List.set_cons_zero, List.set_cons_succ]
      refine wpAnyH_take (i := 8) (v := .pointer (some ⟨f.eb, 1, none⟩)) rfl (by kernel_rfl) (by kernel_rfl) (by kernel_rfl) (fun _ _ _ h => h) (Or.inl ⟨by rfl, fun V hV => by (obtain ⟨f1, f2, f3, f4⟩ := hV; go_simp)⟩) hHeld ?_
      try simp only [Act.put, List.getElem_toArray, List.getElem_cons_succ, List.getElem_cons_zero, List.setIfInBounds_toArray, List.set_cons_zero, List.set_cons_succ]
      refine wpAnyH_take (i := 9) (v := .agg c.cells.toArray) rfl (by kernel_rfl) (by kernel_rfl) (by kernel_rfl) (fun _ _ _ h => h) (yieldsIf_load_mid (by rfl) _ _ rfl _ _ rfl _ _ (fun V hV => hV.2.2.2) hu75 hr75 (i75 H6.out)) hHeld ?_
      try simp only [Act.put, List.getElem_toArray, List.getElem_cons_succ, List.getElem_cons_zero, List.setIfInBounds_toArray, List.set_cons_zero, List.set_cons_succ]
      refine wpAnyH_take (i := 10) (v := .int .i64 0) rfl (by kernel_rfl) (by kernel_rfl) (by kernel_rfl) (fun _ _ _ h => h) (Or.inl ⟨by rfl, fun V hV => by (obtain ⟨f1, f2, f3, f4⟩ := hV; go_simp)⟩) hHeld ?_
      try simp only [Act.put, List.getElem_toArray, List.getElem_cons_succ, List.getElem_cons_zero, List.setIfInBounds_toArray, List.set_cons_zero, List.set_cons_succ]
      refine wpAnyH_ready (rs := [11]) (by kernel_rfl) (by simp) ?_
      refine AllReadyH.cons rfl (fun K hK => ?_) AllReadyH.nil
      go_simp
      go_at_call 53; refine Calls.mono (take_lost _ _ c) ?_; rintro e w3 ⟨rfl, hg3⟩; have HG3 := hide hg3; clear hg3
      go_wp2_with fail
      refine hK.out _ _ (HSt.out w3 HG3.out) (fun hHeld => ?_)
      clear hK K
      refine wpAnyH_done (by kernel_rfl) ?_ _
      go_wp2_with fail
      refine ⟨⟨j + 1, hlt, rfl, grown_trans' (grown_drew HG2.out) HG3.out⟩, ?_⟩
      simp only [intOf]; omega
    · obtain rfl : j = D.chs.length := by omega
      have h0c : wr.cell? ⟨b, 0, none⟩ = some (.map (some D.mb)) := (HRj.out.blk.cell 0).trans rfl
      have hrg := run_range_map (P := Tryz.prog) wr 73 9 120 D.mb (ents D.fs) D.clock Tryz.underlying73 HRj.out.map
      have HB0 : Hid (Below base w wr) := (Only.of_grown HGj.out).below HR.out.base_le (by simp)
      have HA0 := hide (show (wr.alloc (.mapIter (some D.mb) D.clock #[] D.clock)).heap[wr.heap.size]? = some (.mapIter (some D.mb) D.clock #[] D.clock) from alloc_new _ _)
      have HRA := hide (HRj.out.alloc (.mapIter (some D.mb) D.clock #[] D.clock))
      have HBA := hide (HB0.out.trans (below_alloc wr (.mapIter (some D.mb) D.clock #[] D.clock) HRj.out.base_le))
      have HI0 : Hid (RestI D D #[]) := ⟨⟨rfl, rfl, rfl, rfl, rfl, rfl, rfl, rfl, rfl⟩, fun f hf => ⟨f, hf, rfl, rfl, rfl⟩, fun f _ h => by simp at h, fun f0 h0 _ => ⟨f0, h0, rfl⟩, HU.out⟩
      go_upto_region 14 with fail
      obtain ⟨I, hI⟩ : ∃ I, I = wr.heap.size := ⟨_, rfl⟩
      rw [← hI] at HA0 ⊢
      go_loopw [8] (fun _ w2 => ∃ (seen : Array Nat) (Dk : DS) (whok : Nat → Nat), w2.heap[I]? = some (.mapIter (some D.mb) D.clock seen D.clock) ∧ Rep w2 base b Dk whok ∧ RestI D Dk seen ∧ Below base w w2) (fun _ w2 => (leftOf (ents D.fs) (w2.iterSeen I)).size)
      case atStart => exact ⟨#[], D, who, HA0.out, HRA.out, HI0.out, HBA.out⟩
      case round =>
        obtain ⟨seen, Dk, whok, hit, hRk, hIk, hBk⟩ := hrel
        obtain ⟨s1, s2, s3, s4, s5, s6, s7, s8, s9⟩ := hIk.same
        have hm1 : wr.heap[D.mb]? = some (.map (ents Dk.fs) D.clock) := by have := hRk.map; rw [s1, s2] at this; exact this
        have hold : ∀ x ∈ (ents Dk.fs).toList, x.born < D.clock := fun x hx => by obtain ⟨f, hf, rfl⟩ := mem_ents hx; rw [← s2]; exact hRk.born f hf
        have hnd' : ((ents Dk.fs).toList.map (·.born)).Nodup := by simpa [ents, Function.comp_def] using hRk.nodup
        have HRk := hide hRk
        have HIk := hide hIk
        have HBk := hide hBk
        have law := run_next_at (P := Tryz.prog) wr 0 I D.mb D.clock D.clock seen (ents Dk.fs) D.clock hit hm1 hold (Nat.le_refl _)
        clear hRk hIk hBk h0c hrg h1c h6c hlt hj
        rcases law with ⟨h00, hrun⟩ | ⟨e, he, w1, hw1, hrun⟩
        · have hnx : ∀ ty, (Instr.next (.pointer (some ⟨I, 0, none⟩)) false ty).run Tryz.prog wr = _ := fun _ => hrun
          rw [hI] at hnx
          have HA : Hid (∀ x ∈ Dk.fs, seen.contains x.born = true) := fun x hx => all_seen (ents Dk.fs) seen h00 x.ent (by simp only [ents, List.toList_toArray, List.mem_map]; exact ⟨x, hx, rfl⟩)
          have hB := HRk.out.blk
          have k1 := hB.cell 1
          have k3 := hB.cell 3
          have k4 := hB.cell 4
          have k6 := hB.cell 6
          have f1 := hB.frozen 1
          have B1 := hB.set 1 (.slice none 0 0)
          have f3 := B1.frozen 3
          have j3 := B1.cell 3
          have B3 := B1.set 3 (.int .i64 0)
          have f4 := B3.frozen 4
          have j4 := B3.cell 4
          have B4 := B3.set 4 (.int .i64 0)
          have f6 := B4.frozen 6
          have j6 := B4.cell 6
          have B6 := B4.set 6 (.bool false)
          have f5 := B6.frozen 5
          have j5 := B6.cell 5
          have B5 := B6.set 5 (.int .i64 (D.starts + 1))
          simp at k1 k3 k4 k6 j3 j4 j6 j5
          rw [s8] at j5
          have hO : Only [b] wr (((((wr.setCell ⟨b, 1, none⟩ (.slice none 0 0)).setCell ⟨b, 3, none⟩ (.int .i64 0)).setCell ⟨b, 4, none⟩ (.int .i64 0)).setCell ⟨b, 6, none⟩ (.bool false)).setCell ⟨b, 5, none⟩ (.int .i64 (D.starts + 1))) := ((((Only.cellAt _ _ _ _).trans (Only.cellAt _ _ _ _)).trans (Only.cellAt _ _ _ _)).trans (Only.cellAt _ _ _ _)).trans (Only.cellAt _ _ _ _)
          have HO := hide hO
          have HB5 : Hid (Blk (((((wr.setCell ⟨b, 1, none⟩ (.slice none 0 0)).setCell ⟨b, 3, none⟩ (.int .i64 0)).setCell ⟨b, 4, none⟩ (.int .i64 0)).setCell ⟨b, 6, none⟩ (.bool false)).setCell ⟨b, 5, none⟩ (.int .i64 (D.starts + 1))) b (restD Dk).cells 76) := by
            have e : (restD Dk).cells = (((((Dk.cells.setIfInBounds 1 (.slice none 0 0)).setIfInBounds 3 (.int .i64 0)).setIfInBounds 4 (.int .i64 0)).setIfInBounds 6 (.bool false)).setIfInBounds 5 (.int .i64 (D.starts + 1))) := by
              simp [restD, s8]
            rw [e]
            exact B5
          have hws : IntKind.i64.wrap (D.starts + 1) = D.starts + 1 := by rw [IntKind.wrap_i64]; have := HSt0.out; omega
          have HSame := hide (And.intro s5 s8)
          clear hrun hit hm1 hB B1 B3 B4 B6 B5 hO h00 s1 s2 s3 s4 s5 s6 s7 s8 s9
          go_wp2
          go_ret
          have R' := HRk.out.reset HO.out HB5.out
          refine ⟨rfl, HBk.out.trans (HO.out.below HRk.out.base_le (fun k hk => by have : k = b := by simpa using hk
                                                                                   rw [this]; exact HRk.out.lowb)), restD Dk, whok, R', ?_⟩
          exact ⟨rfl, rfl, rfl, rfl, by show Dk.starts + 1 = _; rw [HSame.out.2], HSame.out.1, fun f hf => ⟨(HIk.out.done_ f hf (HA.out f hf)).1, (HIk.out.done_ f hf (HA.out f hf)).2, HIk.out.from_ f hf⟩, HIk.out.all_, HIk.out.uniq⟩
        · obtain ⟨f, hf, rfl⟩ := mem_ents (mem_left he).1
          have hseen : seen.contains f.born = false := (mem_left he).2
          have hO1 : Only [I] wr (setBlock w1 I (.mapIter (some D.mb) D.clock (seen.push f.born) D.clock)) := by
            rcases hw1 with rfl | rfl
            · exact Only.setBlock _ _ _
            · exact (Only.drew wr [I]).trans (Only.setBlock _ _ _)
          have hit1 : (setBlock w1 I (.mapIter (some D.mb) D.clock (seen.push f.born) D.clock)).heap[I]? = some (.mapIter (some D.mb) D.clock (seen.push f.born) D.clock) := by
            rcases hw1 with rfl | rfl <;> exact setBlock_same hit
          generalize setBlock w1 I (.mapIter (some D.mb) D.clock (seen.push f.born) D.clock) = W at hO1 hit1 hrun
          have hnx : ∀ ty, (Instr.next (.pointer (some ⟨I, 0, none⟩)) false ty).run Tryz.prog wr = _ := fun _ => hrun
          rw [hI] at hnx
          have hRW := HRk.out.iter hit hO1
          have hm2 : W.heap[D.mb]? = some (.map (ents Dk.fs) D.clock) := by have := hRW.map; rw [s1, s2] at this; exact this
          have hen := run_entry_at (P := Tryz.prog) W I D.mb D.clock seen (ents Dk.fs) D.clock f.ent hit1 hm2 (mem_left he).1 hnd'
          rw [hI] at hen
          obtain ⟨ka, kc, hkv⟩ := ownsRow_form (hRW.okv f hf)
          have hk1 : W.cell? ⟨f.eb, 1, none⟩ = some (.slice ka f.kept.length kc) := by rw [(hRW.ent f hf).cell 1, ← hkv]; rfl
          have hkl : f.kept.length ≤ 1048576 := by
            obtain ⟨f0, h0, _, _, h3⟩ := HIk.out.from_ f hf
            rw [← h3]; exact HS.out.kl f0 h0
          have HCl : Hid (Calls Tryz.prog 54 #[.slice ka f.kept.length kc] W fun e w' => ∃ v', e = .returned v' ∧ Own w' base v' f.kept ∧ (∀ g, v'.ownBlock = some g → W.heap.size ≤ g) ∧ W.grownBy w' none) := by
            have := clone_any W base f.kv f.kept (hRW.okv f hf) hkl hRW.base_le
            rw [hkv] at this
            exact this
          have HF3 : Hid (∀ w3, W.grownBy w3 none → w3.frozen? ⟨f.eb, 0, none⟩ = false ∧ ∃ v, w3.cell? ⟨f.eb, 0, none⟩ = some v) := fun w3 hg => ⟨((hRW.keep hg).ent f hf).frozen 0, _, (((hRW.keep hg).ent f hf).cell 0).trans rfl⟩
          have HRW := hide hRW
          have HHit := hide hit1
          have HHit0 := hide hit
          have HF := hide hf
          have HSeen := hide hseen
          have HbW : Hid (Below base wr W) := hO1.below HRk.out.base_le (fun k hk => by
            have e : k = I := by simpa using hk
            rw [e, hI]
            exact HRj.out.base_le)
          have HSM := hide (And.intro s1 s2)
          clear hrun hit hit1 hm1 hm2 he hO1 hf hseen hRW hkl hw1 s1 s2 s3 s4 s5 s6 s7 s8 s9 hold
          go_upto_region 17 with (first
            | (go_at_call 54; refine Calls.mono HCl.out ?_; rintro e w3 ⟨v3, rfl, ho3, hv3, hg3⟩; obtain ⟨hf3, ⟨x3, hc3⟩⟩ := HF3.out w3 hg3; obtain ⟨a3, cp3, hv3'⟩ := ownsRow_form ho3; have HO3 := hide ho3; have HV3 := hide hv3; have HG3 := hide hg3; clear ho3 hv3 hg3; subst hv3'))
          have R3 := HRW.out.keep HG3.out
          have hO4 : Only (f.eb :: f.sv.ownBlock.toList) w3 (w3.setCell ⟨f.eb, 0, none⟩ (.slice a3 f.kept.length cp3)) := (Only.setCell w3 ⟨f.eb, 0, none⟩ _).mono (by simp)
          have hnb : ∀ g, (Value.slice a3 f.kept.length cp3).ownBlock = some g → g ≠ f.eb := fun g hg e => by
            have h1 := HV3.out g hg
            have h2 := (HRW.out.ent f HF.out).lt
            omega
          have hlt3 : W.heap.size ≤ w3.heap.size := HG3.out.size
          have hB4 : Blk (w3.setCell ⟨f.eb, 0, none⟩ (.slice a3 f.kept.length cp3)) f.eb #[.slice a3 f.kept.length cp3, f.kv] 119 := (R3.ent f HF.out).set 0 _
          have ho4 : Own (w3.setCell ⟨f.eb, 0, none⟩ (.slice a3 f.kept.length cp3)) base (.slice a3 f.kept.length cp3) f.kept := ownsRow_only HO3.out (Only.setCell w3 ⟨f.eb, 0, none⟩ _) (fun k hk => by have := hnb k hk; simp; exact this)
          have R4 := (Rep.setS3 HRW.out HG3.out HF.out (.slice a3 f.kept.length cp3) f.kept HV3.out hB4 ho4)
          obtain ⟨who4, R4⟩ := R4
          have hit4 : (w3.setCell ⟨f.eb, 0, none⟩ (.slice a3 f.kept.length cp3)).heap[I]? = some (.mapIter (some D.mb) D.clock (seen.push f.born) D.clock) := by
            rw [Below.heap_setCell _ ⟨f.eb, 0, none⟩ _ I (HRW.out.iterKept HHit.out HF.out).1]
            rw [HG3.out.block I (Array.getElem?_eq_some_iff.1 HHit.out).1 (by simp)]
            exact HHit.out
          have hbe4 : Below base w3 (w3.setCell ⟨f.eb, 0, none⟩ (.slice a3 f.kept.length cp3)) := (Only.setCell w3 ⟨f.eb, 0, none⟩ _).below R3.base_le (fun k hk => by
            have e : k = f.eb := by simpa using hk
            rw [e]; exact R3.lowe f HF.out)
          have HFg := hide (forget_any _ base b _ who4 R4 f.name)
          have HR4 := hide R4
          have HHit4 := hide hit4
          have Hbe4 := hide hbe4
          have HI5 := hide (HIk.out.step HR.out.nodup HRk.out.nodup HF.out (.slice a3 f.kept.length cp3))
          clear R3 hO4 hnb hB4 ho4 R4 hit4 hbe4
          go_wp2_with (first
            | (go_at_call 55; refine Calls.mono HFg.out ?_; rintro e w6 ⟨rfl, hO6, hR6⟩; have HO6 := hide hO6; have HR6 := hide hR6; clear hO6 hR6))
          go_roundw
          case rel =>
            have hmI : I ≠ Dk.mb := (HRW.out.iterKept HHit.out HF.out).2
            have hit6 : w6.heap[I]? = some (.mapIter (some D.mb) D.clock (seen.push f.born) D.clock) := HO6.out.blk HHit4.out (by
              show I ∉ [Dk.mb]
              simp; exact hmI)
            have hb6 : Below base w w6 := (((HBk.out.trans HbW.out).trans ((Only.of_grown HG3.out).below HRW.out.base_le (by simp))).trans Hbe4.out).trans (HO6.out.below HR4.out.base_le (fun k hk => by
              have e : k = Dk.mb := by have h9 := List.mem_singleton.1 hk; exact h9
              rw [e]; exact HRk.out.lowm))
            subst hI
            exact ⟨_, _, _, _, _, _, _, _, _, _, _, _, _, _, _, _, _, _, _, _, _, _, ⟨seen.push f.born, _, who4, hit6, HR6.out, HI5.out, hb6⟩, rfl⟩
          case measure =>
            have hmI : I ≠ Dk.mb := (HRW.out.iterKept HHit.out HF.out).2
            have hit6 : w6.heap[I]? = some (.mapIter (some D.mb) D.clock (seen.push f.born) D.clock) := HO6.out.blk HHit4.out (by
              show I ∉ [Dk.mb]
              simp; exact hmI)
            simp only [World.iterSeen, hit6, HHit0.out]
            obtain ⟨f0, h0, h1, _, _⟩ := HIk.out.from_ f HF.out
            have hs0 : seen.contains f0.born = false := by rw [h1]; exact HSeen.out
            have := left_shrinks (ents D.fs) seen f0.ent (left_mem (by simp only [ents, List.toList_toArray, List.mem_map]; exact ⟨f0, h0, rfl⟩) hs0)
            rw [show f0.ent.born = f.born from h1] at this
            exact this
end Go.Proofs.YteocmhbllckpjaaGreat
