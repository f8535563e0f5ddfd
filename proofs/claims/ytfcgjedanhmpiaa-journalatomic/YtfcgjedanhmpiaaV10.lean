/- slices.Clone of bytes; what is seen has turned; a change that is lost. -/
/- A disk is started again: the plain part, and what memory keeps. -/
import Derived.Test.YtfcgjedanhmpiaaV8
import Derived.Lib.SliceRun
namespace Go.Proofs.Ytfcgjedanhmpiaa
open Go.ChangeShapes Go.WideShapes Go.ChangeAt Go.RowKit
open Go.ChangeMaps (setBlock)
set_option linter.unusedVariables false

section
variable {w w' : World} {base b : Nat} {D : DS} {who : Nat → Nat}

/-- What is seen of one file has turned. -/
theorem Rep.setS2 (R : Rep w base b D who) {f0 : FL} (hf0 : f0 ∈ D.fs) (v' : Value) (l' : List UInt8) (hv : ∀ g, v'.ownBlock = some g → f0.sv.ownBlock = some g ∨ w.heap.size ≤ g)
    (h' : Only (f0.eb :: f0.sv.ownBlock.toList) w w') (hb : Blk w' f0.eb #[v', f0.kv] 103) (ho : Own w' base v' l') :
    Rep w' base b { D with fs := upd D.fs f0.born fun f => { f with sv := v', seen := l' } } (fun k => if v'.ownBlock = some k then 4 + 3 * f0.born else who k) := by
  have hwf := R.we f0 hf0
  have ng : ∀ k, k < w.heap.size → who k ≠ 4 + 3 * f0.born → ¬ v'.ownBlock = some k := fun k hk h2 e => by
    rcases hv k e with hg | hg
    · rw [R.ws f0 hf0 k hg] at h2; exact h2 rfl
    · omega
  have nS : ∀ k, who k ≠ 3 + 3 * f0.born → who k ≠ 4 + 3 * f0.born → k ∉ f0.eb :: f0.sv.ownBlock.toList := fun k h0 h2 hm => by
    rcases List.mem_cons.1 hm with rfl | hm
    · exact h0 hwf
    · exact h2 (R.ws f0 hf0 k (by simpa using hm))
  have key : ∀ f' ∈ upd D.fs f0.born (fun f => { f with sv := v', seen := l' }), (f' = { f0 with sv := v', seen := l' }) ∨ (f' ∈ D.fs ∧ f'.born ≠ f0.born) := fun f' hf' => by
    obtain ⟨f, hf, ⟨e, rfl⟩ | ⟨e, rfl⟩⟩ := mem_upd hf'
    · have : f = f0 := FL.inj R.nodup hf hf0 e
      subst this; exact .inl rfl
    · exact .inr ⟨hf, e⟩
  refine
    { blk := h'.blk R.blk (nS _ (by rw [R.wb]; omega) (by rw [R.wb]; omega))
      map := by
        show w'.heap[D.mb]? = some (.map (ents (upd D.fs f0.born _)) D.clock)
        rw [ents_upd (g := fun f => { f with sv := v', seen := l' }) (fun f => rfl)]; exact h'.blk R.map (nS _ (by rw [R.wm]; omega) (by rw [R.wm]; omega))
      born := fun f' hf' => by
        rcases key f' hf' with rfl | ⟨hf, _⟩
        · exact R.born f0 hf0
        · exact R.born f' hf
      nodup := by show ((upd D.fs f0.born _).map (·.born)).Nodup; rw [born_upd (g := fun f => { f with sv := v', seen := l' }) (fun f => rfl)]; exact R.nodup
      ent := fun f' hf' => by
        rcases key f' hf' with rfl | ⟨hf, e⟩
        · exact hb
        · exact h'.blk (R.ent f' hf) (nS _ (by rw [R.we f' hf]; omega) (by rw [R.we f' hf]; omega))
      osv := fun f' hf' => by
        rcases key f' hf' with rfl | ⟨hf, e⟩
        · exact ho
        · exact ownsRow_only (R.osv f' hf) h' (fun k hk => nS _ (by rw [R.ws f' hf k hk]; omega) (by rw [R.ws f' hf k hk]; omega))
      okv := fun f' hf' => by
        rcases key f' hf' with rfl | ⟨hf, e⟩
        · exact ownsRow_only (R.okv f0 hf0) h' (fun k hk => nS _ (by rw [R.wk f0 hf0 k hk]; omega) (by rw [R.wk f0 hf0 k hk]; omega))
        · exact ownsRow_only (R.okv f' hf) h' (fun k hk => nS _ (by rw [R.wk f' hf k hk]; omega) (by rw [R.wk f' hf k hk]; omega))
      ochs := ownsRow_only R.ochs h' (fun k hk => nS _ (by rw [R.wc k hk]; omega) (by rw [R.wc k hk]; omega))
      c64 := R.c64, lowb := R.lowb, lowm := R.lowm
      lowe := fun f' hf' => by
        rcases key f' hf' with rfl | ⟨hf, _⟩
        · exact R.lowe f0 hf0
        · exact R.lowe f' hf
      wb := by rw [if_neg (ng b R.blk.lt (by rw [R.wb]; omega))]; exact R.wb
      wm := by show (if v'.ownBlock = some D.mb then _ else who D.mb) = 1; rw [if_neg (ng _ R.mlt (by rw [R.wm]; omega))]; exact R.wm
      wc := fun k hk => by rw [if_neg (ng _ (own_lt R.ochs k hk).2 (by rw [R.wc k hk]; omega))]; exact R.wc k hk
      we := fun f' hf' => by
        rcases key f' hf' with rfl | ⟨hf, e⟩
        · show (if v'.ownBlock = some f0.eb then _ else who f0.eb) = _; rw [if_neg (ng _ (R.ent f0 hf0).lt (by rw [hwf]; omega))]; exact hwf
        · rw [if_neg (ng _ (R.ent f' hf).lt (by rw [R.we f' hf]; omega))]; exact R.we f' hf
      ws := fun f' hf' k hk => by
        rcases key f' hf' with rfl | ⟨hf, e⟩
        · have hk' : v'.ownBlock = some k := hk
          rw [if_pos hk']
        · rw [if_neg (ng _ (own_lt (R.osv f' hf) k hk).2 (by rw [R.ws f' hf k hk]; omega))]; exact R.ws f' hf k hk
      wk := fun f' hf' k hk => by
        rcases key f' hf' with rfl | ⟨hf, e⟩
        · have hk' : f0.kv.ownBlock = some k := hk
          rw [if_neg (ng _ (own_lt (R.okv f0 hf0) k hk').2 (by rw [R.wk f0 hf0 k hk']; omega))]; exact R.wk f0 hf0 k hk'
        · rw [if_neg (ng _ (own_lt (R.okv f' hf) k hk).2 (by rw [R.wk f' hf k hk]; omega))]; exact R.wk f' hf k hk }

end
theorem wp_run2 {ops : Array Oper} {rest : List Oper} {o : Oper} {a : Act} {Q : Exit → Act → World → Prop} {w : World} (hgd : o.guard = none) (sl x : Operand) (t u : TypeId)
    (ho : o.op = .call { callee := .builtin .append, args := #[sl, x], argTypes := #[t, u] }) (v xv v' : Value) (w' : World) (hs : a.eval sl = v) (hx : a.eval x = xv)
    (hr : (Builtin.append_ #[t, u] o.type #[v, xv]).run Try.prog w = .ok v' w') (h : wpList Try.prog ops Q rest (a.put o.dst v') w') : wpList Try.prog ops Q (o :: rest) a w := by
  refine wpList_plain hgd fun K hK => ?_
  unfold Oper.wp execOp
  simp only [ho, resolve, invoke, builtin, Sem.run_bind, Sem.run_pure, Result.andThen_ok, List.map_toArray, List.map_cons, List.map_nil, hs, hx, hr]
  exact hK _ _ h

theorem app_none (pv : Option Addr) (n cv : Nat) (hn : n ≤ cv) (p : Option Addr) (c : Nat) (ty : TypeId) (W : World) : (Builtin.append_ #[43, 43] ty #[.slice pv n cv, .slice p 0 c]).run Try.prog W = .ok (.slice pv n cv) W := by
  obtain ⟨i, hi, hz, hsz, hby⟩ := info5
  cases p <;> cases pv <;> simp [Builtin.append_, run_underlying Try.underlying43, sizeOf, typeInfo, hi, Builtin.lenOf, Builtin.firstCells, loadCells, loadCellsFrom, storeCells, hn]

set_option maxHeartbeats 1000000 in
set_option maxRecDepth 100000 in
theorem clone_any (w : World) (base : Nat) (v : Value) (l : List UInt8) (hown : Own w base v l) (hl : l.length ≤ 1048576) (hbase : base ≤ w.heap.size) :
    Calls Try.prog 49 #[v] w fun e w' => ∃ v', e = .returned v' ∧ Own w' base v' l ∧ (∀ g, v'.ownBlock = some g → w.heap.size ≤ g) ∧ w.grownBy w' none := by
  rcases hown.2 with ⟨rfl, hz⟩ | ⟨g, cap, cur, rfl, hbg, hg, hnc, hcm, hcs, htake⟩
  · have e1 : l = [] := List.length_eq_zero_iff.1 hz
    subst e1
    have hnl : ∀ V, (binOp .eql 43 (.slice none 0 0) (.slice none 0 0)).run Try.prog V = .ok (.bool true) V := fun V => Lib.run_eql_slice_nil (P := Try.prog) V 43 5 none 0 0 0 0 Try.underlying43
    clear hown
    go_enter Try.func49, Try.ntmps49
    go_wp2
    go_ret
    exact ⟨_, rfl, World.ownsRow_nil _ _ _ _, (fun g h => by cases h), ⟨rfl, rfl, rfl, Nat.le_refl _, fun _ _ _ => rfl⟩⟩
  · have hG0 := World.grownBy_alloc w (.cells #[] 5) none
    have hE : (w.alloc (.cells #[] 5)).ownsRow w.heap.size 5 1 (.slice (some ⟨w.heap.size, 0, none⟩) 0 0) 0 [] := ⟨rfl, .inr ⟨w.heap.size, 0, #[], rfl, Nat.le_refl _, alloc_new _ _, Nat.le_refl _, Nat.zero_le _, rfl, rfl⟩⟩
    obtain ⟨v', w', hap, h2, h3, h4⟩ : ∃ v' w', (∀ ty, (Builtin.append_ #[43, 43] ty #[.slice (some ⟨w.heap.size, 0, none⟩) 0 0, .slice (some ⟨g, 0, none⟩) l.length cap]).run Try.prog (w.alloc (.cells #[] 5)) = .ok v' w') ∧ Own w' base v' l ∧ (w.alloc (.cells #[] 5)).grownBy w' (some w.heap.size) ∧ ∀ k, v'.ownBlock = some k → w.heap.size ≤ k := by
      by_cases h0 : l.length = 0
      · have e1 : l = [] := List.length_eq_zero_iff.1 h0
        subst e1
        exact ⟨_, _, fun ty => app_none _ 0 0 (Nat.le_refl _) _ _ ty _, ownsRow_base hE hbase, ⟨rfl, rfl, rfl, Nat.le_refl _, fun _ _ _ => rfl⟩, fun k hk => by cases hk; exact Nat.le_refl _⟩
      · obtain ⟨i, hi, hz, hsz, hby⟩ := info5
        have hc := hown.cells (g := g) rfl
        have key := fun ty => app_own (P := Try.prog) (w.alloc (.cells #[] 5)) w.heap.size 43 ty 5 i _ 1 1 Try.underlying43 hi hz hsz hby rfl (by omega) (.slice (some ⟨w.heap.size, 0, none⟩) 0 0) 0 [] hE ⟨g, 0, none⟩ l.length cap (by omega) (bcs l) (by rw [length_bcs, Nat.mul_one]) (fun j u hj => (World.grownBy_alloc w _ none).cell (hc j u hj) (by simp)) (one_bcs l) (by simp only [maxLen]; omega) (by omega) (by simp)
        obtain ⟨v', w', hrun, ho, hg', q, hq, hqq⟩ := key 0
        refine ⟨v', w', fun ty => ?_, ?_, hg', fun k hk => ?_⟩
        · exact hrun
        · have := ownsRow_base ho hbase
          simpa using this
        · rw [hq] at hk
          cases hk
          rcases hqq with h | h
          · cases h; exact Nat.le_refl _
          · simp at h; omega
    have hgw : w.grownBy w' none := ⟨h3.os.trans hG0.os, h3.tape.trans hG0.tape, h3.output.trans hG0.output, Nat.le_trans hG0.size h3.size, fun k hk _ => by
      have hk2 : k < (w.alloc (.cells #[] 5)).heap.size := by simp; omega
      rw [h3.block k hk2 (fun e => by have : k = w.heap.size := by simpa using e
                                      omega)]
      exact hG0.block k hk (by simp)⟩
    have HE := hide (And.intro h2 (And.intro h4 hgw))
    have hnl : ∀ V, (binOp .eql 43 (.slice (some ⟨g, 0, none⟩) l.length cap) (.slice none 0 0)).run Try.prog V = .ok (.bool false) V := fun V => Lib.run_eql_slice_nil (P := Try.prog) V 43 5 (some ⟨g, 0, none⟩) l.length cap 0 0 Try.underlying43
    clear hown hE hG0 h2 h3 h4 hgw hg hcs htake
    go_enter Try.func49, Try.ntmps49
    have HAp := hide hap
    clear hap
    go_wp2_with (refine wp_run2 (by rfl) _ _ 43 43 (by rfl) _ _ v' w' (by rfl) (by rfl) (HAp.out _) ?_)
    go_ret
    exact ⟨_, rfl, HE.out.1, HE.out.2.1, HE.out.2.2⟩

set_option maxHeartbeats 1000000 in
/-- A change of which nothing had come. -/
theorem take_lost (w : World) (pk : Value) (c : Ch) : Calls Try.prog 48 #[pk, .agg c.cells.toArray, .int .i64 0] w fun e w' => e = .returned (.tuple #[]) ∧ w.grownBy w' none := by
  have HG := hide (World.grownBy_alloc w (.cells c.cells.toArray 100) none)
  go_enter Try.func48, Try.ntmps48
  go_wp2
  go_end0
  exact ⟨rfl, HG.out⟩
end Go.Proofs.Ytfcgjedanhmpiaa

namespace Go.Proofs.Ytfcgjedanhmpiaa
open Go.ChangeShapes Go.WideShapes Go.ChangeAt Go.RowKit
open Go.ChangeMaps (setBlock)
set_option linter.unusedVariables false

/-- Each file is found by its name. -/
def Uniq (fs : List FL) : Prop := ∀ f ∈ fs, look fs f.name = some f
theorem name_eq {a b : ByteArray} (h : (a == b) = true) : a = b := by
  have h1 : (a.data == b.data) = true := h
  have h2 := eq_of_beq h1
  cases a; cases b; simp_all
theorem look_some {fs : List FL} {nm : ByteArray} {f : FL} (h : look fs nm = some f) : f ∈ fs ∧ nm = f.name := by
  refine ⟨List.mem_of_find?_eq_some h, ?_⟩
  have := List.find?_some h
  exact name_eq this
theorem look_mem {fs : List FL} {f : FL} (h : f ∈ fs) : ∃ g, look fs f.name = some g := by
  cases hl : look fs f.name with
  | some g => exact ⟨g, rfl⟩
  | none =>
    have := List.find?_eq_none.1 hl f h
    exact absurd (bytes_beq f.name) this
theorem Uniq.sub {fs gs : List FL} (h : Uniq fs) (hs : ∀ f ∈ gs, f ∈ fs) : Uniq gs := fun f hf => by
  obtain ⟨g, hg⟩ := look_mem hf
  obtain ⟨h1, h2⟩ := look_some hg
  have e1 := h f (hs f hf)
  have e2 := h g (hs g h1)
  rw [h2] at e1
  rw [e1] at e2
  cases e2
  rw [← h2]
  exact hg
theorem Uniq.upd {fs : List FL} (h : Uniq fs) (i : Nat) (g : FL → FL) (hg : ∀ f, (g f).name = f.name) : Uniq (upd fs i g) := by
  have key : ∀ nm, look (Go.Proofs.Ytfcgjedanhmpiaa.upd fs i g) nm = (look fs nm).map (fun f => if f.born = i then g f else f) := fun nm => by
    unfold look Go.Proofs.Ytfcgjedanhmpiaa.upd
    rw [List.find?_map]
    congr 1
    congr 1
    funext x
    simp only [Function.comp]
    split
    · rw [hg]
    · rfl
  intro f hf
  unfold Go.Proofs.Ytfcgjedanhmpiaa.upd at hf
  obtain ⟨x, hx, rfl⟩ := List.mem_map.1 hf
  rw [key]
  have hn : (if x.born = i then g x else x).name = x.name := by split; exact hg x; rfl
  rw [hn, h x hx]
  rfl
/-- Between two rounds over the files. -/
structure RestI (D Dk : DS) (seen : Array Nat) : Prop where
  same : Dk.mb = D.mb ∧ Dk.clock = D.clock ∧ Dk.cv = D.cv ∧ Dk.chs = D.chs ∧ Dk.room = D.room ∧ Dk.fuse = D.fuse ∧ Dk.steps = D.steps ∧ Dk.starts = D.starts ∧ Dk.down = D.down
  from_ : ∀ f ∈ Dk.fs, ∃ f0 ∈ D.fs, f0.born = f.born ∧ f0.name = f.name ∧ f0.kept = f.kept
  done_ : ∀ f ∈ Dk.fs, seen.contains f.born = true → f.seen = f.kept ∧ f.kept ≠ []
  all_ : ∀ f0 ∈ D.fs, f0.kept ≠ [] → ∃ f ∈ Dk.fs, f.born = f0.born
  uniq : Uniq Dk.fs
theorem contains_push {s : Array Nat} {a x : Nat} (h : (s.push a).contains x = true) : s.contains x = true ∨ x = a := by
  simpa using h
theorem RestI.step {D Dk : DS} {seen : Array Nat} (h : RestI D Dk seen) (hnD : (D.fs.map (·.born)).Nodup) (hn : (Dk.fs.map (·.born)).Nodup) {f : FL} (hf : f ∈ Dk.fs) (v : Value) :
    RestI D (forgetD { Dk with fs := upd Dk.fs f.born fun x => { x with sv := v, seen := f.kept } } f.name) (seen.push f.born) := by
  have hlk : look (upd Dk.fs f.born fun x => { x with sv := v, seen := f.kept }) f.name = some { f with sv := v, seen := f.kept } := look_upd hn (h.uniq f hf) (fun x => { x with sv := v, seen := f.kept }) (fun _ => rfl)
  have hU := h.uniq.upd f.born (fun x => { x with sv := v, seen := f.kept }) (fun _ => rfl)
  have key : ∀ f' ∈ upd Dk.fs f.born (fun x => { x with sv := v, seen := f.kept }), (f' = { f with sv := v, seen := f.kept }) ∨ (f' ∈ Dk.fs ∧ f'.born ≠ f.born) := fun f' hf' => by
    obtain ⟨x, hx, ⟨e, rfl⟩ | ⟨e, rfl⟩⟩ := mem_upd hf'
    · have : x = f := FL.inj hn hx hf e
      subst this; exact .inl rfl
    · exact .inr ⟨hx, e⟩
  have hfl : flen { Dk with fs := upd Dk.fs f.born fun x => { x with sv := v, seen := f.kept } } f.name = f.kept.length := by
    unfold flen
    rw [hlk]
    rfl
  have hfrom : ∀ f' ∈ upd Dk.fs f.born (fun x => { x with sv := v, seen := f.kept }), ∃ f0 ∈ D.fs, f0.born = f'.born ∧ f0.name = f'.name ∧ f0.kept = f'.kept := fun f' hf' => by
    rcases key f' hf' with rfl | ⟨hx, _⟩
    · exact h.from_ f hf
    · exact h.from_ f' hx
  have hall : ∀ f0 ∈ D.fs, f0.kept ≠ [] → ∃ f' ∈ upd Dk.fs f.born (fun x => { x with sv := v, seen := f.kept }), f'.born = f0.born := fun f0 h0 hk => by
    obtain ⟨x, hx, e⟩ := h.all_ f0 h0 hk
    by_cases e2 : x.born = f.born
    · exact ⟨_, mem_upd_self hf (fun x => { x with sv := v, seen := f.kept }), by rw [← e, e2]⟩
    · refine ⟨x, ?_, e⟩
      unfold upd
      exact List.mem_map.2 ⟨x, hx, by rw [if_neg e2]⟩
  unfold forgetD
  rw [hfl]
  by_cases h0 : f.kept.length = 0
  · rw [if_pos h0]
    dsimp only
    rw [hlk]
    have hk0 : f.kept = [] := List.length_eq_zero_iff.1 h0
    refine ⟨h.same, fun f' hf' => ?_, fun f' hf' hs => ?_, fun f0 hm hk => ?_, ?_⟩
    · exact hfrom f' (List.mem_filter.1 hf').1
    · obtain ⟨h1, h2⟩ := List.mem_filter.1 hf'
      have hb : f'.born ≠ f.born := by simpa using h2
      rcases key f' h1 with rfl | ⟨hx, _⟩
      · exact absurd rfl hb
      · rcases contains_push hs with h3 | h3
        · exact h.done_ f' hx h3
        · exact absurd h3 hb
    · obtain ⟨f', h1, h2⟩ := hall f0 hm hk
      refine ⟨f', List.mem_filter.2 ⟨h1, ?_⟩, h2⟩
      obtain ⟨f1, h3, h4, h5, h6⟩ := hfrom f' h1
      have hb : f'.born ≠ f.born := fun e => by
        obtain ⟨f2, g3, g4, g5, g6⟩ := h.from_ f hf
        have e0 : f2 = f0 := FL.inj hnD g3 hm (by rw [g4, ← h2, e])
        rw [e0] at g6
        exact hk (g6.trans hk0)
      simpa using hb
    · exact hU.sub (fun x hx => (List.mem_filter.1 hx).1)
  · rw [if_neg h0]
    have hk0 : f.kept ≠ [] := fun e => h0 (by rw [e]; rfl)
    refine ⟨h.same, hfrom, fun f' hf' hs => ?_, hall, hU⟩
    rcases key f' hf' with rfl | ⟨hx, hb⟩
    · exact ⟨rfl, hk0⟩
    · rcases contains_push hs with h3 | h3
      · exact h.done_ f' hx h3
      · exact absurd h3 hb
end Go.Proofs.Ytfcgjedanhmpiaa
