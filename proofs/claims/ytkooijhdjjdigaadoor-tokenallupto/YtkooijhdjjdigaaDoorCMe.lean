/- A loop over a function whose items come in a known order, which is told what a round leaves also where it is left. -/
import Derived.Test.YtkooijhdjjdigaaDoorCMb
namespace Go.Proofs.YtkooijhdjjdigaaDoor
open Go.ChangeShapes Go.WideShapes Go.ChangeAt Go.RowKit Go.Shelf
set_option linter.unusedVariables false

/-- As SeqL, for a function that wants to know what a round keeps also where the round leaves. -/
def SeqM (n gf : Nat) (lb : Array Value) (N : Nat) (it : Nat → Array Value) (Kp : World → World → Prop) (w : World) : Prop :=
  ∀ (lp : Nat) (J Jx : Nat → World → Prop) (W : World), Below w.heap.size w W → StableL W.heap.size J → StableL W.heap.size Jx →
    (∀ k W1, J k W1 → k < N → YieldAt Fence.wide (n - 1) Tryd.prog lp (it k) W1 fun e W' => (e = .returned (.bool true) ∧ J (k + 1) W' ∧ Kp W1 W') ∨ (e = .returned (.bool false) ∧ Jx k W' ∧ Kp W1 W')) →
    J 0 W → CallsIn Fence.wide n Tryd.prog gf (#[.func (.yield lp) #[] #[]] ++ lb) W fun e W' => (∃ v, e = .returned v) ∧ (J N W' ∨ ∃ k, k < N ∧ Jx k W')
def endM (B : Nat) (Kp : World → World → Prop) (I Ix : Nat → World → Prop) (k : Nat) (W : World) : Exit → Act → World → Prop
  | .normal, _, W' => KeepsFrom B W W' ∧ Kp W W' ∧ I (k + 1) W'
  | .ret, _, W' => KeepsFrom B W W' ∧ Kp W W' ∧ Ix k W'
  | _, _, _ => False
set_option maxRecDepth 100000 in
theorem range_M {g : Operand} {ps : Array Tmp} {assign body : Code} {Q : Exit → Act → World → Prop} {a : Act} {w : World} {n gf N : Nat} {lb : Array Value} {it : Nat → Array Value} {Kp : World → World → Prop}
    (h1 : 1 ≤ n) (hg : a.eval g = .func (.func gf) #[] lb) (eg : ∀ args w, (callFunc gf args).run Tryd.prog w = .ok (.enter gf args) w) (hseq : ∀ V, Below w.heap.size w V → V.heap.size = w.heap.size + 2 → SeqM (n - 1) gf lb N it Kp V)
    (hKt : ∀ {A B C : World}, Kp A B → Kp B C → Kp A C) (hKb : ∀ (W : World) (o o' : Obj), W.heap[w.heap.size + 1]? = some o → o.isCells = false → Kp W (W.putObj (w.heap.size + 1) o')) (hps : ∀ k, (it k).size = ps.size)
    (I Ix : Nat → World → Prop) (hI : StableL w.heap.size I) (hIx : StableL w.heap.size Ix) (h0 : I 0 w) (Ax : Nat → Act → World → Prop) (hAx : ∀ a', StableL w.heap.size (fun k W => Ax k a' W))
    (hassign : ∀ (l k : Nat) (W : World) (K : Act → World → Prop), k < N → I k W → (∀ a' W', KeepsFrom w.heap.size W W' → Kp W W' → I k W' → Ax k a' W' → K a' W') →
      assign.wpIn (Fence.wide.inRound l) (n - 1 - 1) Tryd.prog (Exit.then K (fun _ _ _ => False)) { tmps := (ps.zip (it k)).foldl (fun t (p, v) => t.setIfInBounds p v) a.tmps, defers := [] } W)
    (hbody : ∀ (l k : Nat) (a' : Act) (W : World), w.heap.size ≤ l → k < N → I k W → Ax k a' W → body.wpIn (Fence.wide.inRound l) (n - 1 - 1) Tryd.prog (endM w.heap.size Kp I Ix k W) a' W)
    (hdone : ∀ (D : Nat) (W : World), w.heap.size ≤ D → I N W → W.heap[D]? = some (.deferred (some [])) → Q .normal { a with defers := { target := .collected D, args := #[] } :: a.defers } W)
    (hstop : ∀ (D k : Nat) (W : World), w.heap.size ≤ D → k < N → Ix k W → W.heap[D]? = some (.deferred (some [])) → Q .ret { a with defers := { target := .collected D, args := #[] } :: a.defers } W) :
    (Code.rangeFunc g ps assign body).wpIn Fence.wide n Tryd.prog Q a w := by
  refine wpIn_rangeFunc fun fn hfn => ?_
  obtain ⟨B, hB⟩ : ∃ B, w.heap.size = B := ⟨_, rfl⟩
  rw [hB] at hKb hI hIx hAx hassign hbody hdone hstop
  -- the loop's record, in each of its states
  obtain ⟨R, hR⟩ : ∃ R : LoopState → Option Code → Loop, R = fun st pe => { state := st, pending := pe, fn, tmps := a.tmps, params := ps, assign, body, defers := B } := ⟨_, rfl⟩
  obtain ⟨V, hV⟩ : ∃ V, V = (w.alloc (.deferred (some []))).alloc (.loop (R .ready none)) := ⟨_, rfl⟩
  have eV : V.heap.size = B + 2 := by rw [hV]; simp [hB]
  have e1 : (w.alloc (.deferred (some []))).heap.size = B + 1 := by simp [hB]
  have vL : V.heap[B + 1]? = some (.loop (R .ready none)) := by rw [hV, ← e1]; exact World.alloc_heap_new _ _
  have vD : V.heap[B]? = some (.deferred (some [])) := by
    rw [hV]; exact (Below.heap_alloc _ _ _ (by omega)).trans (by rw [← hB]; exact World.alloc_heap_new w _)
  have vI : I 0 V := by rw [hV]; exact hI.alloc _ (hI.alloc _ h0)
  have vb : Below w.heap.size w V := by rw [hV]; exact below_trans (below_alloc w _) (below_alloc _ _)
  -- what the book-keeping turns
  have same : ∀ {X Y : World} {row : Option Nat} {i : Nat} {o : Obj}, X.grownBy Y row → (∀ r, row = some r → V.heap.size ≤ r) → i < V.heap.size → X.heap[i]? = some o → Y.heap[i]? = some o := fun hg hr hi ho =>
    (hg.block _ (Array.getElem?_eq_some_iff.1 ho).1 (fun e => by have := hr _ e.symm; omega)).trans ho
  refine ⟨B + 1, [{ target := .collected B, args := #[] }], V, { target := .fn (.func gf) lb, args := #[.func (.yield (B + 1)) #[] #[]] }, V, gf, #[.func (.yield (B + 1)) #[] #[]] ++ lb, V, ?_, ?_, fun f' hf' => trivial, ?_, fun _ => h1, ?_⟩
  · rw [hV, hR, ← hB]; exact run_enterLoop_outer _ _ _ _ _
  · simp only [resolve, hg]
    simp [go_sem]
  · simp [invoke, go_sem, eg]
  refine CallsIn.mono (hseq V vb (by omega) (B + 1) (fun k W => I k W ∧ W.heap[B + 1]? = some (.loop (R .ready none)) ∧ W.heap[B]? = some (.deferred (some [])))
    (fun k W => Ix k W ∧ W.heap[B + 1]? = some (.loop (R .done (some .ret))) ∧ W.heap[B]? = some (.deferred (some []))) V (Below.refl _ _)
    (fun k X Y row h hg hr => ⟨hI k X Y row h.1 hg (fun r e => ⟨by have := (hr r e).1; omega, (hr r e).2⟩), same hg (fun r e => (hr r e).1) (by omega) h.2.1, same hg (fun r e => (hr r e).1) (by omega) h.2.2⟩)
    (fun k X Y row h hg hr => ⟨hIx k X Y row h.1 hg (fun r e => ⟨by have := (hr r e).1; omega, (hr r e).2⟩), same hg (fun r e => (hr r e).1) (by omega) h.2.1, same hg (fun r e => (hr r e).1) (by omega) h.2.2⟩)
    ?_ ⟨vI, vL, vD⟩) ?_
  · rintro k W ⟨hi, hl, hd⟩ hk
    have hy := run_yield (P := Tryd.prog) (args := it k) hl (by rw [hR]; exact hps k)
    rw [hR] at hy
    refine ⟨fn, _, assign, body, hy, roundIn_of_wpIn hfn (hassign _ k W _ hk hi fun a' W1 k1 p1 i1 x1 => ?_)⟩
    have l1 := k1.same _ _ (by omega) hl rfl
    have d1 := k1.same _ _ (Nat.le_refl _) hd rfl
    refine ⟨_, run_beginRound l1 (by rw [hR]), ?_⟩
    obtain ⟨W2, hW2⟩ : ∃ W2, W2 = W1.putObj (B + 1) (.loop { R .ready none with state := .busy }) := ⟨_, rfl⟩
    have l2 : W2.heap[B + 1]? = some (.loop { R .ready none with state := .busy }) := by rw [hW2]; exact World.putObj_heap_same (Array.getElem?_eq_some_iff.1 l1).1
    have d2 : W2.heap[B]? = some (.deferred (some [])) := by rw [hW2]; exact (World.putObj_heap_other (by omega)).trans d1
    have p2 : Kp W1 W2 := by rw [hW2]; exact hKb _ _ _ l1 rfl
    have i2 : I k W2 := by rw [hW2]; exact hI.put _ i1 (by omega) l1 rfl
    have x2 : Ax k a' W2 := by rw [hW2]; exact (hAx a').put _ x1 (by omega) l1 rfl
    rw [← hW2]
    refine wpIn_mono (hbody _ k a' W2 (by omega) hk i2 x2) fun e a3 W3 h3 => ?_
    have leave : ∀ (j : Option Code), KeepsFrom B W2 W3 → (Instr.endRound (B + 1) j).run Tryd.prog W3 = .ok (.bool j.isNone) (W3.putObj (B + 1) (.loop (R (if j.isNone then .ready else .done) j))) ∧
        W3.heap[B + 1]? = some (.loop { R .ready none with state := .busy }) ∧ (W3.putObj (B + 1) (.loop (R (if j.isNone then .ready else .done) j))).heap[B + 1]? = some (.loop (R (if j.isNone then .ready else .done) j)) ∧
        (W3.putObj (B + 1) (.loop (R (if j.isNone then .ready else .done) j))).heap[B]? = some (.deferred (some [])) := fun j k3 => by
      have l3 := k3.same _ _ (by omega) l2 rfl
      have hr := run_endRound (P := Tryd.prog) j l3
      refine ⟨?_, l3, World.putObj_heap_same (Array.getElem?_eq_some_iff.1 l3).1, (World.putObj_heap_other (by omega)).trans (k3.same _ _ (Nat.le_refl _) d2 rfl)⟩
      rw [hR] at hr ⊢
      exact hr
    cases e with
    | normal =>
      obtain ⟨k3, p3, i3⟩ := h3
      obtain ⟨r, l3, l4, d4⟩ := leave none k3
      exact ⟨_, _, r, .inl ⟨rfl, ⟨hI.put _ i3 (by omega) l3 rfl, l4, d4⟩, hKt p1 (hKt p2 (hKt p3 (hKb _ _ _ l3 rfl)))⟩⟩
    | ret =>
      obtain ⟨k3, p3, i3⟩ := h3
      obtain ⟨r, l3, l4, d4⟩ := leave (some .ret) k3
      exact ⟨_, _, r, .inr ⟨rfl, ⟨hIx.put _ i3 (by omega) l3 rfl, l4, d4⟩, hKt p1 (hKt p2 (hKt p3 (hKb _ _ _ l3 rfl)))⟩⟩
    | exit id => exact h3.elim
    | goto t => exact h3.elim
    | panic ch => exact h3.elim
    | outgrown => exact h3.elim
  · rintro e W ⟨⟨v, rfl⟩, (⟨hi, hl, hd⟩ | ⟨k, hk, hi, hl, hd⟩)⟩
    · refine ⟨none, _, by have := run_endLoop (P := Tryd.prog) hl (by rw [hR]; simp); rw [hR] at this; exact this, ?_⟩
      exact hdone _ _ (Nat.le_refl _) (hI.put _ hi (by omega) hl rfl) ((World.putObj_heap_other (by omega)).trans hd)
    · refine ⟨some .ret, _, by have := run_endLoop (P := Tryd.prog) hl (by rw [hR]; simp); rw [hR] at this; exact this, ?_⟩
      exact wpIn_ret (hstop _ k _ (Nat.le_refl _) hk (hIx.put _ hi (by omega) hl rfl) ((World.putObj_heap_other (by omega)).trans hd))
end Go.Proofs.YtkooijhdjjdigaaDoor
