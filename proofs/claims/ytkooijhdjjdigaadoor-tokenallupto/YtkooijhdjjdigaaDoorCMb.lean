/- Ranging over a function in its order: the rule; the program's walk over a text's tokens, so. -/
/- A loop over a function whose items come in a known order. -/
import Derived.Test.YtkooijhdjjdigaaDoorCLb
import Derived.RangeFuncNested
namespace Go.Proofs.YtkooijhdjjdigaaDoor
open Go.ChangeShapes Go.WideShapes Go.ChangeAt Go.RowKit Go.Shelf
set_option linter.unusedVariables false
attribute [local go_sem] Oper.semAt_some

/-- What lasts while blocks come, and while what is no cells turns from B on. -/
def StableL (B : Nat) (J : Nat → World → Prop) : Prop := ∀ k W W' row, J k W → W.grownBy W' row → (∀ r, row = some r → B ≤ r ∧ ∃ o : Obj, W.heap[r]? = some o ∧ o.isCells = false) → J k W'
theorem StableL.alloc {B : Nat} {J : Nat → World → Prop} (h : StableL B J) {k : Nat} {W : World} (o : Obj) (hs : J k W) : J k (W.alloc o) := h k W _ none hs (World.grownBy_alloc W o none) (fun r e => by cases e)
theorem StableL.put {B : Nat} {J : Nat → World → Prop} (h : StableL B J) {k l : Nat} {W : World} {o : Obj} (o' : Obj) (hs : J k W) (hB : B ≤ l) (hl : W.heap[l]? = some o) (ho : o.isCells = false) : J k (W.putObj l o') :=
  h k W _ (some l) hs (grownBy_putObj' W l o') (fun r e => by cases e; exact ⟨hB, o, hl, ho⟩)
/-- A function that gives these items, one behind the other, to whoever ranges over it. -/
def SeqL (n gf : Nat) (lb : Array Value) (N : Nat) (it : Nat → Array Value) (Kp : World → World → Prop) (w : World) : Prop :=
  ∀ (lp : Nat) (J Jx : Nat → World → Prop) (W : World), Below w.heap.size w W → StableL W.heap.size J → StableL W.heap.size Jx →
    (∀ k W1, J k W1 → k < N → YieldAt Fence.wide (n - 1) Tryd.prog lp (it k) W1 fun e W' => (e = .returned (.bool true) ∧ J (k + 1) W' ∧ Kp W1 W') ∨ (e = .returned (.bool false) ∧ Jx k W')) →
    J 0 W → CallsIn Fence.wide n Tryd.prog gf (#[.func (.yield lp) #[] #[]] ++ lb) W fun e W' => (∃ v, e = .returned v) ∧ (J N W' ∨ ∃ k, k < N ∧ Jx k W')
set_option maxRecDepth 100000 in
set_option maxHeartbeats 2000000 in
theorem walk1_L (s : ByteArray) (hs : s.size ≤ 4294967280) (G : List (Tk × Nat)) (hG : wklS s.data.toList = G) (n lp A : Nat) (Kp : World → World → Prop) (hKp : ∀ X Y, Kp X Y → KpT A X Y) (J Jx : Nat → World → Prop)
    (hY : ∀ k W, J k W → k < G.length → YieldAt Fence.wide (n - 1) Tryd.prog lp (encT G k) W fun e W' =>
      (e = .returned (.bool true) ∧ J (k + 1) W' ∧ Kp W W') ∨ (e = .returned (.bool false) ∧ Jx k W'))
    (W : World) (hJ : StableL W.heap.size J) (hA : Blk W A #[.string s] 9) (hE : Env W) (h0 : J 0 W) :
    CallsIn Fence.wide n Tryd.prog 38 #[.func (.yield lp) #[] #[], .pointer (some ⟨A, 0, none⟩)] W fun e W' => (∃ v, e = .returned v) ∧
      (J G.length W' ∨ (∃ k, k < G.length ∧ Jx k W')) := by
  have hs2 : s.size ≤ 140737488355328 := by omega
  have c0 := hA.cell 0
  have HJ2 := hide h0
  have HA2 := hide hA
  have HE2 := hide hE
  have HJa := hide hJ
  have HK := hide hKp
  have HG := hide hG
  have HBh := hide (fun V (j : Nat) (hj : j ≤ s.size) => behind_e s hs2 j hj V)
  have HB0 := hide (behind_e s hs2 0 (Nat.zero_le _) W)
  rw [List.drop_zero] at HB0
  have HFi := hide (fun V (j : Nat) (hj : j < s.size) (hV : Env V) => first_e (s.extract j s.size) (by simp; omega) (by simp; omega) V hV)
  have hsk := skp_le false s.data.toList
  simp only [Array.length_toList, ByteArray.size_data] at hsk
  obtain ⟨q0, hq0⟩ : ∃ q, skp false s.data.toList = q := ⟨_, rfl⟩
  rw [hq0] at hsk HB0
  have HQ := hide hq0
  have e0 : 0 + q0 = q0 := Nat.zero_add _
  rw [e0] at HB0
  clear h0 hA hE hJ hKp hG hq0 e0
  refine callsIn_of_wp Tryd.func38 rfl trivial ?_ rfl
  simp only [Tryd.ntmps38, List.size_toArray, List.length_cons, List.length_nil, Nat.reduceAdd, Nat.reduceSub, Array.replicate_succ, Array.replicate_zero, List.push_toArray, List.append_toArray, List.nil_append, List.cons_append]
  gi_wp2_with (first
    | ((refine ⟨trivial, (fun h => absurd h (by decide)), ?_⟩); gi_at_call 39; refine CallsIn.mono (callsIn_wide.2 HB0.out) ?_; rintro e' w1 ⟨rfl, rfl⟩))
  gi_loopw [3] (fun iv wr => ∃ (k j f : Nat), k ≤ G.length ∧ j ≤ s.size ∧ iv = .int .i64 (j : Int) ∧ s.size < j + f ∧ wkl f (s.data.toList.drop j) j = G.drop k ∧ J k wr ∧ Blk wr A #[.string s] 9 ∧ Env wr) (fun iv _ => s.size - (intOf iv).toNat)
  case atStart =>
    refine ⟨0, q0, s.size + 1, Nat.zero_le _, hsk, rfl, by omega, ?_, HJ2.out, HA2.out, HE2.out⟩
    rw [← HG.out, ← HQ.out]
    simp [wklS]
  case round =>
    obtain ⟨k, j, f, hk, hj, rfl, hf, hrel, hJs, hAr, hEr⟩ := hrel
    have cA := hAr.cell 0
    by_cases hlt : j < s.size
    · have l1 : (j : Int) < (s.size : Int) := by omega
      have l2 : (j : Int) ≤ (s.size : Int) := by omega
      have l0 : (0 : Int) ≤ (j : Int) := by omega
      obtain ⟨f, rfl⟩ : ∃ g, f = g + 1 := ⟨f - 1, by omega⟩
      obtain ⟨L, hL⟩ : ∃ L, s.data.toList.drop j = L := ⟨_, rfl⟩
      have hLl : L.length = s.size - j := by rw [← hL]; simp
      have hLn : L ≠ [] := fun e => by rw [e] at hLl; simp at hLl; omega
      rw [hL] at hrel
      have hklt : k < G.length := by
        rcases Nat.lt_or_ge k G.length with h | h
        · exact h
        · exfalso
          rw [List.drop_of_length_le h, wkl, if_neg hLn] at hrel
          cases ht : tok L <;> rw [ht] at hrel <;> simp at hrel
      have hGk : G.drop k = G[k] :: G.drop (k + 1) := List.drop_eq_getElem_cons hklt
      have hgd : G.getD k (⟨0, 0, []⟩, 0) = G[k] := by simp [List.getD, hklt]
      have HF := hide (HFi.out wr j hlt hEr)
      rw [ext_drop, hL] at HF
      have HYk : ∀ C, encT G k = C → Hid (∀ W', J k W' → YieldAt Fence.wide (n - 1) Tryd.prog lp C W' fun e W'' =>
          (e = .returned (.bool true) ∧ J (k + 1) W'' ∧ Kp W' W'') ∨ (e = .returned (.bool false) ∧ Jx k W'')) := fun C hC W' h => by
        rw [← hC]
        exact hY k W' h hklt
      have HJn := hide (fun (w1 : World) (hb : Below wr.heap.size wr w1) (o : Obj) => HJa.out _ _ _ none hJs (grown_of_below (below_trans hb (below_alloc w1 o))) (fun r e => by cases e))
      have HAr := hide hAr
      have HEr := hide hEr
      have HTd : Hid (k < G.length) := hklt
      cases htk : tok L with
      | none =>
        rw [wkl_bad hLn htk, hGk] at hrel
        have hg : G[k] = (⟨0, j, []⟩, j) := (List.cons.inj hrel).1.symm
        have hend : G.length ≤ k + 1 := by
          have := (List.cons.inj hrel).2.symm
          exact List.drop_eq_nil_iff.1 this
        have hf : fstV L = .tuple #[.agg #[.int .i64 0, .int .i64 0, .string ⟨#[]⟩], .int .i64 0] := by unfold fstV; rw [htk]
        rw [hf] at HF
        have HYk := HYk #[.agg #[.int .i64 0, .int .i64 (j : Int), .string ⟨#[]⟩], .int .i64 (j : Int)] (by unfold encT; rw [show G.getD k (⟨0, 0, []⟩, 0) = (⟨0, j, []⟩, j) from hgd.trans hg]; rfl)
        have hw : IntKind.i64.wrap ((j : Int) + 0) = (j : Int) := by rw [IntKind.wrap_i64]; omega
        clear hf hL hLl hLn hrel hJs hAr hEr htk hGk hgd hY
        gi_wp2_with (first
          | ((refine ⟨trivial, (fun h => absurd h (by decide)), ?_⟩); gi_at_call 40; refine CallsIn.mono (callsIn_wide.2 HF.out) ?_; rintro e' w1 ⟨rfl, hb⟩; have HB1 := hide hb; clear hb; obtain ⟨fn, tmps, assign, body, hy, hR⟩ := HYk.out _ (HJn.out w1 HB1.out (.cells #[.int .i64 0, .int .i64 (j : Int), .string ⟨#[]⟩] 39)); have HR := hide hR; clear hR))
        refine ⟨(fun h => absurd h (by decide)), HR.out.mono ?_⟩
        rintro e W3 (⟨rfl, hJ3, hk3⟩ | ⟨rfl, hJx3⟩)
        · have hB3 : Blk W3 w1.heap.size #[.int .i64 0, .int .i64 (j : Int), .string ⟨#[]⟩] 39 := (HK.out _ _ hk3).2.2 _ _ (Blk.new w1 _ _) rfl
          have c3 := hB3.cell 0
          have HJ3 := hide hJ3
          clear hk3 hJ3 hB3
          gi_wp2
          refine bodyPost_ret (results_none rfl _ _ _) rfl ?_
          refine ⟨⟨_, rfl⟩, .inl ?_⟩
          have hke : G.length = k + 1 := by have := HTd.out; omega
          rw [hke]
          exact HJ3.out
        · gi_wp2
          refine bodyPost_ret (results_none rfl _ _ _) rfl ?_
          exact ⟨⟨_, rfl⟩, .inr ⟨k, HTd.out, hJx3⟩⟩
      | some x =>
        obtain ⟨m, kd⟩ := x
        rw [wkl_ok hLn htk, hGk] at hrel
        obtain ⟨hg, hrel2⟩ := List.cons.inj hrel
        clear hrel
        have hrel := hrel2
        clear hrel2
        have hm := tok_le _ _ _ htk
        rw [hLl] at hm
        have hkd : 1 ≤ kd := by
          cases hLc : L with
          | nil => exact absurd hLc hLn
          | cons c r => rw [hLc] at htk; exact (tok_kind htk).1
        have hf : fstV L = .tuple #[.agg #[.int .i64 (kd : Int), .int .i64 0, .string ⟨(tokT (L.take m) kd).toArray⟩], .int .i64 (m : Int)] := by unfold fstV; rw [htk]
        rw [hf] at HF
        obtain ⟨jm, hjm⟩ : ∃ jm, j + m = jm := ⟨_, rfl⟩
        rw [hjm] at hg
        have HYk := HYk #[.agg #[.int .i64 (kd : Int), .int .i64 (j : Int), .string ⟨(tokT (L.take m) kd).toArray⟩], .int .i64 (jm : Int)] (by unfold encT; rw [hgd, ← hg]; rfl)
        generalize tokT (L.take m) kd = T at *
        have hw : IntKind.i64.wrap ((j : Int) + (m : Int)) = (jm : Int) := by rw [IntKind.wrap_i64]; omega
        have e0 : ((kd : Int) == 0) = false := by simp; omega
        have hdd : L.drop m = s.data.toList.drop jm := by rw [← hL, List.drop_drop, hjm]
        have hsk := skp_le false (s.data.toList.drop jm)
        simp only [List.length_drop, Array.length_toList, ByteArray.size_data] at hsk
        have HBn := hide (fun V => HBh.out V jm (by omega))
        rw [hdd] at hrel
        generalize skp false (s.data.toList.drop jm) = z at *
        rw [← hL, List.drop_drop] at hrel
        rw [show j + (m + z) = jm + z by omega, hjm] at hrel
        have HN := hide hrel
        have hm2 : jm ≤ s.size := by omega
        have HM2 : Hid (j < jm) := (show j < jm by omega)
        have HM := hide hm
        clear hf hL hLl hLn hrel hJs hAr hEr htk hGk hgd hY hg hdd hkd hjm
        gi_wp2_with (first
          | ((refine ⟨trivial, (fun h => absurd h (by decide)), ?_⟩); gi_at_call 40; refine CallsIn.mono (callsIn_wide.2 HF.out) ?_; rintro e' w1 ⟨rfl, hb⟩; have HB1 := hide hb; clear hb; obtain ⟨fn, tmps, assign, body, hy, hR⟩ := HYk.out _ (HJn.out w1 HB1.out (.cells #[.int .i64 (kd : Int), .int .i64 (j : Int), .string ⟨T.toArray⟩] 39)); have HR := hide hR; clear hR))
        refine ⟨(fun h => absurd h (by decide)), HR.out.mono ?_⟩
        rintro e W3 (⟨rfl, hJ3, hk3⟩ | ⟨rfl, hJx3⟩)
        · have hK3 := HK.out _ _ hk3
          have hB3 : Blk W3 w1.heap.size #[.int .i64 (kd : Int), .int .i64 (j : Int), .string ⟨T.toArray⟩] 39 := hK3.2.2 _ _ (Blk.new w1 _ _) rfl
          have hA3 : Blk W3 A #[.string s] 9 := hK3.1.trans (Blk.later HAr.out (below_trans HB1.out (below_alloc w1 _)))
          have HE3 := hide ((HEr.out.below (below_trans HB1.out (below_alloc w1 _))).kept hK3)
          have c3 := hB3.cell 0
          have cA3 := hA3.cell 0
          have HJ3 := hide hJ3
          have HA3 := hide hA3
          clear hk3 hJ3 hB3 hK3 hA3
          gi_wp2_with (first
            | ((refine ⟨trivial, (fun h => absurd h (by decide)), ?_⟩); gi_at_call 39; refine CallsIn.mono (callsIn_wide.2 (HBn.out _)) ?_; rintro e' w4 ⟨rfl, rfl⟩))
          go_roundw
          case rel => exact ⟨k + 1, jm + z, f, hklt, by omega, rfl, by have := HM2.out; omega, HN.out, HJ3.out, HA3.out, HE3.out⟩
          case measure => have := HM2.out; simp [intOf]; omega
        · gi_wp2
          refine bodyPost_ret (results_none rfl _ _ _) rfl ?_
          exact ⟨⟨_, rfl⟩, .inr ⟨k, HTd.out, hJx3⟩⟩
    · obtain rfl : j = s.size := by omega
      have m1 : ¬ (s.size : Int) < (s.size : Int) := by omega
      rw [List.drop_of_length_le (by simp), wkl_nil] at hrel
      have hkG : G.length ≤ k := List.drop_eq_nil_iff.1 hrel.symm
      gi_wp2
      go_end0
      obtain rfl : k = G.length := by omega
      exact ⟨⟨_, rfl⟩, .inl hJs⟩
theorem walk_L (s : ByteArray) (hs : s.size ≤ 4294967280) (G : List (Tk × Nat)) (hG : wklS s.data.toList = G) (n A : Nat) (Kp : World → World → Prop) (hKp : ∀ X Y, Kp X Y → KpT A X Y) (w : World) (hA : Blk w A #[.string s] 9) (hE : Env w) :
    SeqL n 38 #[.pointer (some ⟨A, 0, none⟩)] G.length (encT G) Kp w := fun lp J Jx W hW hJ _ hY h0 =>
  walk1_L s hs G hG n lp A Kp hKp J Jx hY W hJ (hA.later hW) (hE.below hW) h0
end Go.Proofs.YtkooijhdjjdigaaDoor

namespace Go.Proofs.YtkooijhdjjdigaaDoor
open Go.ChangeShapes Go.WideShapes Go.ChangeAt Go.RowKit Go.Shelf
set_option linter.unusedVariables false

/-- What a round leaves: it goes on, or it leaves the loop by a return. -/
def endL (B : Nat) (Kp : World → World → Prop) (I Ix : Nat → World → Prop) (k : Nat) (W : World) : Exit → Act → World → Prop
  | .normal, _, W' => KeepsFrom B W W' ∧ Kp W W' ∧ I (k + 1) W'
  | .ret, _, W' => KeepsFrom B W W' ∧ Ix k W'
  | _, _, _ => False
set_option maxRecDepth 100000 in
theorem range_L {g : Operand} {ps : Array Tmp} {assign body : Code} {Q : Exit → Act → World → Prop} {a : Act} {w : World} {n gf N : Nat} {lb : Array Value} {it : Nat → Array Value} {Kp : World → World → Prop}
    (h1 : 1 ≤ n) (hg : a.eval g = .func (.func gf) #[] lb) (eg : ∀ args w, (callFunc gf args).run Tryd.prog w = .ok (.enter gf args) w) (hseq : ∀ V, Below w.heap.size w V → V.heap.size = w.heap.size + 2 → SeqL (n - 1) gf lb N it Kp V)
    (hKt : ∀ {A B C : World}, Kp A B → Kp B C → Kp A C) (hKb : ∀ (W : World) (o o' : Obj), W.heap[w.heap.size + 1]? = some o → o.isCells = false → Kp W (W.putObj (w.heap.size + 1) o')) (hps : ∀ k, (it k).size = ps.size)
    (I Ix : Nat → World → Prop) (hI : StableL w.heap.size I) (hIx : StableL w.heap.size Ix) (h0 : I 0 w) (Ax : Nat → Act → World → Prop) (hAx : ∀ a', StableL w.heap.size (fun k W => Ax k a' W))
    (hassign : ∀ (l k : Nat) (W : World) (K : Act → World → Prop), k < N → I k W → (∀ a' W', KeepsFrom w.heap.size W W' → Kp W W' → I k W' → Ax k a' W' → K a' W') →
      assign.wpIn (Fence.wide.inRound l) (n - 1 - 1) Tryd.prog (Exit.then K (fun _ _ _ => False)) { tmps := (ps.zip (it k)).foldl (fun t (p, v) => t.setIfInBounds p v) a.tmps, defers := [] } W)
    (hbody : ∀ (l k : Nat) (a' : Act) (W : World), w.heap.size ≤ l → k < N → I k W → Ax k a' W → body.wpIn (Fence.wide.inRound l) (n - 1 - 1) Tryd.prog (endL w.heap.size Kp I Ix k W) a' W)
    (hdone : ∀ (D : Nat) (W : World), w.heap.size ≤ D → I N W → W.heap[D]? = some (.deferred (some [])) → Q .normal { a with defers := { target := .collected D, args := #[] } :: a.defers } W)
    (hstop : ∀ (D k : Nat) (W : World), w.heap.size ≤ D → k < N → Ix k W → W.heap[D]? = some (.deferred (some [])) → Q .ret { a with defers := { target := .collected D, args := #[] } :: a.defers } W) :
    (Code.rangeFunc g ps assign body).wpIn Fence.wide n Tryd.prog Q a w := by
  refine wpIn_rangeFunc fun fn hfn => ?_
  obtain ⟨B, hB⟩ : ∃ B, w.heap.size = B := ⟨_, rfl⟩
  rw [hB] at hKb hI hIx hAx hassign hbody hdone hstop
  -- the loop's record, in each of its states
  obtain ⟨R, hR⟩ : ∃ R : LoopState → Option Code → Loop, R = fun st pe => { state := st, pending := pe, fn, tmps := a.tmps, params := ps, assign, body, defers := B } := ⟨_, rfl⟩
  obtain ⟨V, hV⟩ : ∃ V, V = (w.alloc (.deferred (some []))).alloc (.loop (R .ready none)) := ⟨_, rfl⟩
  have eV : V.heap.size = B + 2 := by rw [hV]; simp [hB]
  have e1 : (w.alloc (.deferred (some []))).heap.size = B + 1 := by simp [hB]
  have vL : V.heap[B + 1]? = some (.loop (R .ready none)) := by rw [hV, ← e1]; exact World.alloc_heap_new _ _
  have vD : V.heap[B]? = some (.deferred (some [])) := by
    rw [hV]; exact (Below.heap_alloc _ _ _ (by omega)).trans (by rw [← hB]; exact World.alloc_heap_new w _)
  have vI : I 0 V := by rw [hV]; exact hI.alloc _ (hI.alloc _ h0)
  have vb : Below w.heap.size w V := by rw [hV]; exact below_trans (below_alloc w _) (below_alloc _ _)
  -- what the book-keeping turns
  have same : ∀ {X Y : World} {row : Option Nat} {i : Nat} {o : Obj}, X.grownBy Y row → (∀ r, row = some r → V.heap.size ≤ r) → i < V.heap.size → X.heap[i]? = some o → Y.heap[i]? = some o := fun hg hr hi ho =>
    (hg.block _ (Array.getElem?_eq_some_iff.1 ho).1 (fun e => by have := hr _ e.symm; omega)).trans ho
  refine ⟨B + 1, [{ target := .collected B, args := #[] }], V, { target := .fn (.func gf) lb, args := #[.func (.yield (B + 1)) #[] #[]] }, V, gf, #[.func (.yield (B + 1)) #[] #[]] ++ lb, V, ?_, ?_, fun f' hf' => trivial, ?_, fun _ => h1, ?_⟩
  · rw [hV, hR, ← hB]; exact run_enterLoop_outer _ _ _ _ _
  · simp only [resolve, hg]
    simp [go_sem]
  · simp [invoke, go_sem, eg]
  refine CallsIn.mono (hseq V vb (by omega) (B + 1) (fun k W => I k W ∧ W.heap[B + 1]? = some (.loop (R .ready none)) ∧ W.heap[B]? = some (.deferred (some [])))
    (fun k W => Ix k W ∧ W.heap[B + 1]? = some (.loop (R .done (some .ret))) ∧ W.heap[B]? = some (.deferred (some []))) V (Below.refl _ _)
    (fun k X Y row h hg hr => ⟨hI k X Y row h.1 hg (fun r e => ⟨by have := (hr r e).1; omega, (hr r e).2⟩), same hg (fun r e => (hr r e).1) (by omega) h.2.1, same hg (fun r e => (hr r e).1) (by omega) h.2.2⟩)
    (fun k X Y row h hg hr => ⟨hIx k X Y row h.1 hg (fun r e => ⟨by have := (hr r e).1; omega, (hr r e).2⟩), same hg (fun r e => (hr r e).1) (by omega) h.2.1, same hg (fun r e => (hr r e).1) (by omega) h.2.2⟩)
    ?_ ⟨vI, vL, vD⟩) ?_
  · rintro k W ⟨hi, hl, hd⟩ hk
    have hy := run_yield (P := Tryd.prog) (args := it k) hl (by rw [hR]; exact hps k)
    rw [hR] at hy
    refine ⟨fn, _, assign, body, hy, roundIn_of_wpIn hfn (hassign _ k W _ hk hi fun a' W1 k1 p1 i1 x1 => ?_)⟩
    have l1 := k1.same _ _ (by omega) hl rfl
    have d1 := k1.same _ _ (Nat.le_refl _) hd rfl
    refine ⟨_, run_beginRound l1 (by rw [hR]), ?_⟩
    obtain ⟨W2, hW2⟩ : ∃ W2, W2 = W1.putObj (B + 1) (.loop { R .ready none with state := .busy }) := ⟨_, rfl⟩
    have l2 : W2.heap[B + 1]? = some (.loop { R .ready none with state := .busy }) := by rw [hW2]; exact World.putObj_heap_same (Array.getElem?_eq_some_iff.1 l1).1
    have d2 : W2.heap[B]? = some (.deferred (some [])) := by rw [hW2]; exact (World.putObj_heap_other (by omega)).trans d1
    have p2 : Kp W1 W2 := by rw [hW2]; exact hKb _ _ _ l1 rfl
    have i2 : I k W2 := by rw [hW2]; exact hI.put _ i1 (by omega) l1 rfl
    have x2 : Ax k a' W2 := by rw [hW2]; exact (hAx a').put _ x1 (by omega) l1 rfl
    rw [← hW2]
    refine wpIn_mono (hbody _ k a' W2 (by omega) hk i2 x2) fun e a3 W3 h3 => ?_
    have leave : ∀ (j : Option Code), KeepsFrom B W2 W3 → (Instr.endRound (B + 1) j).run Tryd.prog W3 = .ok (.bool j.isNone) (W3.putObj (B + 1) (.loop (R (if j.isNone then .ready else .done) j))) ∧
        W3.heap[B + 1]? = some (.loop { R .ready none with state := .busy }) ∧ (W3.putObj (B + 1) (.loop (R (if j.isNone then .ready else .done) j))).heap[B + 1]? = some (.loop (R (if j.isNone then .ready else .done) j)) ∧
        (W3.putObj (B + 1) (.loop (R (if j.isNone then .ready else .done) j))).heap[B]? = some (.deferred (some [])) := fun j k3 => by
      have l3 := k3.same _ _ (by omega) l2 rfl
      have hr := run_endRound (P := Tryd.prog) j l3
      refine ⟨?_, l3, World.putObj_heap_same (Array.getElem?_eq_some_iff.1 l3).1, (World.putObj_heap_other (by omega)).trans (k3.same _ _ (Nat.le_refl _) d2 rfl)⟩
      rw [hR] at hr ⊢
      exact hr
    cases e with
    | normal =>
      obtain ⟨k3, p3, i3⟩ := h3
      obtain ⟨r, l3, l4, d4⟩ := leave none k3
      exact ⟨_, _, r, .inl ⟨rfl, ⟨hI.put _ i3 (by omega) l3 rfl, l4, d4⟩, hKt p1 (hKt p2 (hKt p3 (hKb _ _ _ l3 rfl)))⟩⟩
    | ret =>
      obtain ⟨k3, i3⟩ := h3
      obtain ⟨r, l3, l4, d4⟩ := leave (some .ret) k3
      exact ⟨_, _, r, .inr ⟨rfl, hIx.put _ i3 (by omega) l3 rfl, l4, d4⟩⟩
    | exit id => exact h3.elim
    | goto t => exact h3.elim
    | panic ch => exact h3.elim
    | outgrown => exact h3.elim
  · rintro e W ⟨⟨v, rfl⟩, (⟨hi, hl, hd⟩ | ⟨k, hk, hi, hl, hd⟩)⟩
    · refine ⟨none, _, by have := run_endLoop (P := Tryd.prog) hl (by rw [hR]; simp); rw [hR] at this; exact this, ?_⟩
      exact hdone _ _ (Nat.le_refl _) (hI.put _ hi (by omega) hl rfl) ((World.putObj_heap_other (by omega)).trans hd)
    · refine ⟨some .ret, _, by have := run_endLoop (P := Tryd.prog) hl (by rw [hR]; simp); rw [hR] at this; exact this, ?_⟩
      exact wpIn_ret (hstop _ k _ (Nat.le_refl _) hk (hIx.put _ hi (by omega) hl rfl) ((World.putObj_heap_other (by omega)).trans hd))
end Go.Proofs.YtkooijhdjjdigaaDoor
