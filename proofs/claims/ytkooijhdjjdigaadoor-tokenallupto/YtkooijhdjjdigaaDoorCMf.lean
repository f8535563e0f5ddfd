/- TokenAll: the law's own walk over the program's All. -/
import Derived.Test.YtkooijhdjjdigaaDoorCMd
import Derived.Test.YtkooijhdjjdigaaDoorCNb
import Derived.Test.YtkooijhdjjdigaaDoorKS
namespace Go.Proofs.YtkooijhdjjdigaaDoor
open Go.ChangeShapes Go.WideShapes Go.ChangeAt Go.RowKit Go.Shelf
set_option linter.unusedVariables false
attribute [local go_sem] Oper.semAt_some

theorem all_e (w : World) (s : ByteArray) : Calls Tryd.prog 14 #[.string s] w fun e w' => e = .returned (.func (.func 28) #[] #[.pointer (some ⟨w.heap.size, 0, none⟩)]) ∧ w' = w.alloc (.cells #[.string s] 9) := by
  go_enter Tryd.func14, Tryd.ntmps14
  go_wp2
  go_ret
  exact ⟨rfl, rfl⟩
set_option maxRecDepth 100000 in
theorem all_big (s : ByteArray) (hs : 2000 < s.size) (n A : Nat) (it : Nat → Array Value) (Kp : World → World → Prop) (w : World) (hA : Blk w A #[.string s] 9) : SeqM n 28 #[.pointer (some ⟨A, 0, none⟩)] 0 it Kp w := by
  intro lp J Jx W hW hJ hJx hY h0
  have hA' := hA.later hW
  have l1 : (2000 : Int) < (s.size : Int) := by omega
  have cA := (Boxed.alloc (show Boxed W A 9 (.string s) from hA') (.cells #[.func (.yield lp) #[] #[]] 61)).cell
  have HJ := hide hJ
  have H0 := hide h0
  clear hJ hJx hY h0 hA' hA
  refine callsIn_wide.2 ((callsIn_wide (n := 9)).1 ?_)
  refine callsIn_of_wp_marks Tryd.func28 rfl trivial ?_ rfl
  simp only [Tryd.ntmps28, List.size_toArray, List.length_cons, List.length_nil, Nat.reduceAdd, Nat.reduceSub, Array.replicate_succ, Array.replicate_zero, List.push_toArray, List.append_toArray, List.nil_append, List.cons_append]
  gi_wp2
  exact ⟨_, results_none rfl _ _ _, ⟨_, rfl⟩, .inl (HJ.out.alloc _ H0.out)⟩
theorem la_res {V : World} {tmps : Array Value} {p : Nat} {v : Value} (b : Boxed V p 4 v) (h : tmps.getD 4 undef = .pointer (some ⟨p, 0, none⟩)) : (results Tryd.f4 tmps).run Tryd.prog V = .ok v V := by
  have c := b.cell
  have l : (loadVar 4 ⟨p, 0, none⟩).run Tryd.prog V = .ok v V := by simp [go_sem, c]
  have t : tmps[4]?.getD undef = .pointer (some ⟨p, 0, none⟩) := by simpa using h
  simp [results, Tryd.results4, t, asAddr, l]
theorem la_leave {W : World} {D : Nat} {tmps : Array Value} {p : Nat} {v : Value} (hD : W.heap[D]? = some (.deferred (some []))) (b : Boxed W p 4 v)
    (h : tmps.getD 4 undef = .pointer (some ⟨p, 0, none⟩)) {R : Ending → World → Prop} (hR : R (.returned v) (W.putObj D (.deferred none))) :
    bodyPostM Fence.wide 9 Tryd.prog Tryd.f4 R Exit.ret { tmps := tmps, defers := [{ target := .collected D, args := #[] }] } W := by
  have hg : W.grownBy (W.putObj D (.deferred none)) (some D) := grownBy_putObj' W D (.deferred none)
  have ne : some p ≠ some D := fun e => by
    cases e
    rw [show W.heap[_]? = _ from b] at hD; cases hD
  exact ⟨by simp, .inl ⟨D, _, rfl, run_takeDeferred hD, ⟨v, la_res (b.kept hg ne) h, hR⟩⟩⟩
theorem w0_facts (w2 : World) (v0 : Value) (s : ByteArray) {W0 : World} (h : W0 = ((w2.alloc (.cells #[v0] 22)).alloc (.cells #[.int .i64 0] 3)).alloc (.cells #[.string s] 9)) :
    W0.heap.size = w2.heap.size + 3 ∧ Below w2.heap.size w2 W0 ∧ Boxed W0 w2.heap.size 22 v0 ∧ Boxed W0 (w2.heap.size + 1) 3 (.int .i64 0) ∧ Boxed W0 (w2.heap.size + 1 + 1) 9 (.string s) := by
  have e1 : (w2.alloc (.cells #[v0] 22)).heap.size = w2.heap.size + 1 := by simp
  have e2 : ((w2.alloc (.cells #[v0] 22)).alloc (.cells #[.int .i64 0] 3)).heap.size = w2.heap.size + 1 + 1 := by simp
  refine ⟨by rw [h]; simp, by rw [h]; exact below_trans (below_trans (below_alloc _ _) (below_alloc _ _)) (below_alloc _ _), by rw [h]; exact ((Boxed.new _ _ _).alloc _).alloc _, by rw [h, ← e1]; exact (Boxed.new _ _ _).alloc _, by rw [h, ← e2]; exact Boxed.new _ _ _⟩
/-- What the law's loop holds between two rounds. -/
structure LaI (w2 : World) (v : Value) (k : Nat) (W : World) : Prop where
  b : Below w2.heap.size w2 W
  r5 : Boxed W w2.heap.size 22 v
  r8 : Boxed W (w2.heap.size + 1) 3 (.int .i64 (k : Int))
  z : w2.heap.size + 3 ≤ W.heap.size
theorem LaI.own {w2 : World} {v : Value} {B : Nat} (hB : w2.heap.size ≤ B) : StableL B (LaI w2 v) := by
  intro k X Y row h hg hr
  have hr2 : ∀ r, row = some r → ∃ o : Obj, X.heap[r]? = some o ∧ o.isCells = false := fun r e => (hr r e).2
  exact ⟨ownFrom_below (β := Unit) (w₀ := w2) (Nat.le_refl _) hB () X Y row h.b hg hr, boxed_own h.r5 hg hr2, boxed_own h.r8 hg hr2, Nat.le_trans h.z hg.size⟩
structure LaX (w : World) (k : Nat) (W : World) : Prop where
  b : Below w.heap.size w W
  r4 : Boxed W (w.heap.size + 1) 4 (.bool true)
theorem LaX.own {w : World} {B : Nat} (hB : w.heap.size ≤ B) : StableL B (LaX w) := by
  intro k X Y row h hg hr
  have hr2 : ∀ r, row = some r → ∃ o : Obj, X.heap[r]? = some o ∧ o.isCells = false := fun r e => (hr r e).2
  exact ⟨ownFrom_below (β := Unit) (w₀ := w) (Nat.le_refl _) hB () X Y row h.b hg hr, boxed_own h.r4 hg hr2⟩
theorem la_keeps {X W' : World} {b c : Nat} {u v : Value} (h4 : Boxed X (b + 1) 4 u) (h8 : Boxed X (c + 1) 3 v) (hbc : b + 2 ≤ c) (hz : c + 3 ≤ X.heap.size) (hsz : X.heap.size ≤ W'.heap.size)
    (hsame : ∀ j, j < X.heap.size → j ≠ c + 1 → j ≠ b + 1 → W'.heap[j]? = X.heap[j]?) : KeepsFrom (c + 3) X W' ∧ KpC (c + 1 + 1) (c + 3 + 2) X W' :=
  ⟨⟨hsz, fun j o hj ho _ => (hsame j (Array.getElem?_eq_some_iff.1 ho).1 (by omega) (by omega)).trans ho⟩,
    ⟨hsame _ (by omega) (by omega) (by omega), hsame _ (by omega) (by omega) (by omega), fun j d hj _ => (hsame j hj.lt (blk_ne hj (show Blk X _ _ _ from h8) (by decide)) (blk_ne hj (show Blk X _ _ _ from h4) (by decide))).trans hj⟩, hsz,
    fun j hj hx => hsame j hx (by omega) (by omega)⟩
def laF (b c : Nat) (s : ByteArray) (lv bad : Int) (v1 v2 : Value) (x : Tk) (u : Nat) (y : Bool) : Act := { tmps := #[.string s, .int .i64 lv, undef, .pointer (some ⟨b, 0, none⟩), .pointer (some ⟨b + 1, 0, none⟩), .pointer (some ⟨c, 0, none⟩), v2, .int .i64 bad, .pointer (some ⟨c + 1, 0, none⟩), .pointer (some ⟨u, 0, none⟩), .bool true, .bool false, .tuple #[v1, v2, .int .i64 bad], .string s, .tuple #[v1, v2, .int .i64 bad], v1, v2, .int .i64 bad, .string s, .int .i64 (s.size : Int), .bool y, .string s, .func (.func 28) #[] #[.pointer (some ⟨c + 1 + 1, 0, none⟩)], .agg #[.int .i64 (x.k : Int), .int .i64 (x.a : Int), .string ⟨x.t.toArray⟩], undef, undef, undef, undef, undef, undef, undef, undef, undef, undef, undef, undef, undef, undef, undef, undef, undef, undef, undef, undef, undef, undef, undef, undef, undef], defers := [] }
set_option maxRecDepth 100000 in
set_option maxHeartbeats 4000000 in
theorem tokenAll_e (s : ByteArray) (hs : s.size ≤ 1048576) (lv : Int) (H1 : ScanOk hd1) (H2 : ScanOk hd2) (w : World) (hE : Env w) : Calls Tryd.prog 4 #[.string s, .int .i64 lv] w fun e w' => e = .returned (.bool true) ∧ Below w.heap.size w w' := by
  obtain ⟨G, hG⟩ : ∃ G, wklS s.data.toList = G := ⟨_, rfl⟩
  have hsl : s.data.toList.length = s.size := by simp
  have HH := hide (fun V hV => head_e H1 H2 V hV)
  have HT := hide (fun V => tokens_e s (by omega) V)
  have HA := hide (fun V => all_e V s)
  have hfew := (toksS_rise s.data.toList).few
  obtain ⟨T, E, bad, hT⟩ : ∃ T E bad, toksS s.data.toList = (T, E, bad) := ⟨_, _, _, rfl⟩
  rw [hT] at HT hfew
  simp only at HT hfew
  have HE := hide (fun V (hV : Below w.heap.size w V) => hE.below hV)
  clear H1 H2
  refine (callsIn_wide (n := 9)).1 ?_
  refine callsIn_of_wp_marks Tryd.func4 rfl trivial ?_ rfl
  simp only [Tryd.ntmps4, List.size_toArray, List.length_cons, List.length_nil, Nat.reduceAdd, Nat.reduceSub, Array.replicate_succ, Array.replicate_zero, List.push_toArray, List.append_toArray, List.nil_append, List.cons_append]
  have hb1 : Below w.heap.size w ((w.alloc (.cells #[.int .i64 lv] 3)).alloc (.cells #[.bool false] 4)) := below_trans (below_alloc _ _) (below_alloc _ _)
  have HB1 := hide hb1
  clear hb1
  by_cases hbig : 2000 < s.size
  · have l1 : (2000 : Int) < (s.size : Int) := by omega
    gi_wp2_with (first
      | ((refine ⟨trivial, ?_⟩); gi_at_call 11; refine CallsIn.mono (callsIn_wide.2 (HH.out _ (HE.out _ HB1.out))) ?_; rintro e' w1 ⟨rfl, hx⟩; have HX1 := hide hx; clear hx)
      | ((refine ⟨trivial, ?_⟩); gi_at_call 13; refine CallsIn.mono (callsIn_wide.2 (HT.out _)) ?_; rintro e' w2 ⟨v1, v2, rfl, h1, h2, h3⟩; obtain ⟨p1, c1, rfl, q1⟩ := tkAt_own h1; obtain ⟨p2, c2, rfl, q2⟩ := inAt_own h2; have HQ1 := hide q1; have HB2 := hide h3; clear h1 h2 h3 q1 q2)
      | ((refine ⟨trivial, ?_⟩); gi_at_call 14; refine CallsIn.mono (callsIn_wide.2 (HA.out _)) ?_; rintro e' w3 ⟨rfl, rfl⟩))
    obtain ⟨W0, hW0⟩ : ∃ W0, W0 = ((w2.alloc (.cells #[.slice none 0 0] 22)).alloc (.cells #[.int .i64 0] 3)).alloc (.cells #[.string s] 9) := ⟨_, rfl⟩
    obtain ⟨hz0, hb0, k5, k8, kA⟩ := w0_facts w2 _ s hW0
    have hL : ∃ (L : List Tk) (pL : Option Addr) (cL : Nat), Boxed W0 w2.heap.size 22 (.slice pL L.length cL) ∧ L.length ≤ 1048576 ∧
        (0 < L.length → ∃ g, pL = some ⟨g, 0, none⟩ ∧ ∀ V, Below w2.heap.size w2 V → ∀ (i : Nat) (x : Tk), L[i]? = some x → V.cell? ⟨g, i * 3, none⟩ = some (.int .i64 (x.k : Int)) ∧ V.cell? ⟨g, i * 3 + 1, none⟩ = some (.int .i64 (x.a : Int)) ∧ V.cell? ⟨g, i * 3 + 2, none⟩ = some (.string ⟨x.t.toArray⟩)) ∧
        (∀ V, Below W0.heap.size W0 V → V.heap.size = W0.heap.size + 2 → SeqM 8 28 #[.pointer (some ⟨w2.heap.size + 1 + 1, 0, none⟩)] L.length (itA G) (KpC (w2.heap.size + 1 + 1) (W0.heap.size + 2)) V) ∧
        (∀ k x, L[k]? = some x → (gx G k).1 = x) := by
      exact ⟨[], none, 0, k5, by simp, fun h => absurd h (by simp), fun V hV _ => all_big s hbig 8 _ _ _ V (Blk.later kA hV), fun k x h => by simp at h⟩
    rw [← hW0]
    clear hW0
    obtain ⟨L, pL, cL, hL5, hLn, hLq, hseq, hit⟩ := hL
    have HLq := hide hLq
    have HIt := hide hit
    have hbw : Below w.heap.size w W0 := below_trans HB1.out (below_trans HX1.out (below_trans HB2.out hb0))
    have hsz1 := HX1.out.size
    have hsz2 := HB2.out.size
    have hszw : w.heap.size + 2 ≤ w2.heap.size := by simp at hsz1; omega
    have hbw2 : Below w.heap.size w w2 := below_trans HB1.out (below_trans HX1.out HB2.out)
    have ew : (w.alloc (.cells #[.int .i64 lv] 3)).heap.size = w.heap.size + 1 := by simp
    have g3 : Boxed w2 w.heap.size 3 (.int .i64 lv) := Blk.later (Blk.later (show Blk ((w.alloc (.cells #[.int .i64 lv] 3)).alloc (.cells #[.bool false] 4)) w.heap.size #[.int .i64 lv] 3 from (Boxed.new w _ _).alloc _) HX1.out) HB2.out
    have g4 : Boxed w2 (w.heap.size + 1) 4 (.bool false) := Blk.later (Blk.later (show Blk ((w.alloc (.cells #[.int .i64 lv] 3)).alloc (.cells #[.bool false] 4)) (w.heap.size + 1) #[.bool false] 4 by rw [← ew]; exact Boxed.new _ _ _) HX1.out) HB2.out
    have G3 := hide g3
    have G4 := hide g4
    have HBW := hide hbw2
    have h0 : LaI w2 (.slice pL L.length cL) 0 W0 := ⟨hb0, hL5, k8, by omega⟩
    clear hLq hit g3 g4 hbw2 ew
    refine range_M (by omega) (gf := 28) (lb := #[.pointer (some ⟨w2.heap.size + 1 + 1, 0, none⟩)]) rfl (enters_of Tryd.func28 (by kernel_rfl) rfl)
      hseq (fun h h' => kpC_trans h h')
      (fun X o o' ho hc => ⟨kpT_put (by omega) (by omega) ho hc, by simp, fun j hj _ => World.putObj_heap_other (by omega)⟩) (fun _ => rfl)
      (LaI w2 (.slice pL L.length cL)) (LaX w) (LaI.own (by omega)) (LaX.own (by omega)) h0
      (fun k a' X => ∃ u y, a' = laF w.heap.size w2.heap.size s lv bad (.slice p1 T.length c1) (.slice p2 E.length c2) (gx G k).1 u y ∧ Blk X u #[.int .i64 ((gx G k).1.k : Int), .int .i64 ((gx G k).1.a : Int), .string ⟨(gx G k).1.t.toArray⟩] 39)
      (fun a' k X Y row hs hg hr => by
        obtain ⟨u, y, h1, h2⟩ := hs
        refine ⟨u, y, h1, (hg.block u h2.lt fun e => ?_).trans h2⟩
        obtain ⟨o, ho, hc⟩ := (hr u e.symm).2
        rw [show X.heap[u]? = _ from h2] at ho; cases ho; cases hc) ?assign ?body ?done ?stop
    case assign =>
      intro l2 k X Kk hk hI hKk
      have HKk := hide hKk
      have HI' := hide hI
      clear hKk hI
      simp only [itA]
      obtain ⟨gt, hgt⟩ : ∃ gt, gx G k = gt := ⟨_, rfl⟩
      rw [hgt]
      rw [hgt] at HKk
      clear hgt
      gi_wp2
      have hbA : Below X.heap.size X (X.alloc (.cells #[.int .i64 (gt.1.k : Int), .int .i64 (gt.1.a : Int), .string ⟨gt.1.t.toArray⟩] 39)) := below_alloc X _
      have hz := HI'.out.z
      refine HKk.out _ _ (KeepsFrom.of_grownBy (grown_of_below hbA) (fun j e => by cases e)) ⟨kpT_below hbA (by omega) (by omega), hbA.size, fun j _ hx => hbA.block j hx⟩ ((LaI.own (Nat.le_trans (show w2.heap.size ≤ w2.heap.size + 3 by omega) hz)) _ _ _ none HI'.out (grown_of_below hbA) (fun r e => by cases e)) ⟨X.heap.size, _, rfl, Blk.new X _ _⟩
    case body =>
      rintro l2 k a' X hlp hk hI ⟨u, y, rfl, hu⟩
      obtain ⟨x, hx⟩ : ∃ x, L[k]? = some x := ⟨L[k], List.getElem?_eq_getElem hk⟩
      rw [HIt.out k x hx] at hu ⊢
      obtain ⟨g, rfl, hq⟩ := HLq.out (by omega)
      obtain ⟨q0, q1, q2⟩ := hq X hI.b k x hx
      have HU := hide hu
      have HI' := hide hI
      have d0 := hu.cell 0
      have d1 := hu.cell 1
      have d2 := hu.cell 2
      have d5 := hI.r5.cell
      have d8 := hI.r8.cell
      have f8 := hI.r8.frozen
      have n3 : Boxed X w.heap.size 3 (.int .i64 lv) := (hI.b.block _ (by omega)).trans G3.out
      have n4 : Boxed X (w.heap.size + 1) 4 (.bool false) := (hI.b.block _ (by omega)).trans G4.out
      have d3 := n3.cell
      have d4 := n4.cell
      have f4 := n4.frozen
      have N4 := hide n4
      have hzX := hI.z
      have l2' : (k : Int) < (L.length : Int) := by omega
      have l3 : (0 : Int) ≤ (k : Int) := by omega
      obtain ⟨k1, hk1⟩ : ∃ k1, k1 = k + 1 := ⟨_, rfl⟩
      have hw : IntKind.i64.wrap ((k : Int) + 1) = (k1 : Int) := by rw [IntKind.wrap_i64]; omega
      have HK1 := hide hk1
      clear hu hI hq n3 n4 hk1 h0 hseq hL5 hb0 k5 k8 kA hbw hE hG hT
      simp only [laF]
      gi_wp2
      refine region_in (S := fun V => V.cell? ⟨w2.heap.size + 1, 0, none⟩ = some (.int .i64 (k : Int)) ∧ V.cell? ⟨w2.heap.size, 0, none⟩ = some (.slice (some ⟨g, 0, none⟩) L.length cL) ∧ V.cell? ⟨u, 0, none⟩ = some (.int .i64 (x.k : Int)) ∧ V.cell? ⟨u, 1, none⟩ = some (.int .i64 (x.a : Int)) ∧ V.cell? ⟨u, 2, none⟩ = some (.string ⟨x.t.toArray⟩) ∧
        V.cell? ⟨g, k * 3, none⟩ = some (.int .i64 (x.k : Int)) ∧ V.cell? ⟨g, k * 3 + 1, none⟩ = some (.int .i64 (x.a : Int)) ∧ V.cell? ⟨g, k * 3 + 2, none⟩ = some (.string ⟨x.t.toArray⟩)) (by kernel_rfl) (by kernel_rfl) (fun ⟨_, _, h⟩ => h) ⟨d8, d5, d0, d1, d2, q0, q1, q2⟩ (fun hS => ?_)
      refine wpAnyH_take (i := 0) (v := .int .i64 (k : Int)) rfl (by kernel_rfl) (by kernel_rfl) (by kernel_rfl) (fun _ _ _ h => h) (Or.inl ⟨by rfl, fun V hV => ?_⟩) hS ?_
      · obtain ⟨z1, z2, z3, z4, z5, z6, z7, z8⟩ := hV; go_simp
      simp only [Act.put, List.getElem_toArray, List.getElem_cons_zero, List.setIfInBounds_toArray, List.set_cons_zero, List.set_cons_succ]
      refine wpAnyH_take (i := 1) (v := .slice (some ⟨g, 0, none⟩) L.length cL) rfl (by kernel_rfl) (by kernel_rfl) (by kernel_rfl) (fun _ _ _ h => h) (Or.inl ⟨by rfl, fun V hV => ?_⟩) hS ?_
      · obtain ⟨z1, z2, z3, z4, z5, z6, z7, z8⟩ := hV; go_simp
      simp only [Act.put, List.getElem_toArray, List.getElem_cons_zero, List.getElem_cons_succ, List.setIfInBounds_toArray, List.set_cons_zero, List.set_cons_succ]
      refine wpAnyH_take (i := 2) (v := .int .i64 (L.length : Int)) rfl (by kernel_rfl) (by kernel_rfl) (by kernel_rfl) (fun _ _ _ h => h) (Or.inl ⟨by rfl, fun V hV => ?_⟩) hS ?_
      · go_simp
      simp only [Act.put, List.getElem_toArray, List.getElem_cons_zero, List.getElem_cons_succ, List.setIfInBounds_toArray, List.set_cons_zero, List.set_cons_succ]
      refine wpAnyH_take (i := 3) (v := .bool false) rfl (by kernel_rfl) (by kernel_rfl) (by kernel_rfl) (fun _ _ _ h => h) (Or.inl ⟨by rfl, fun V hV => ?_⟩) hS ?_
      · go_simp
      simp only [Act.put, List.getElem_toArray, List.getElem_cons_zero, List.getElem_cons_succ, List.setIfInBounds_toArray, List.set_cons_zero, List.set_cons_succ]
      refine wpAnyH_take (i := 4) (v := .bool false) rfl (by kernel_rfl) (by kernel_rfl) (by kernel_rfl) (fun _ _ _ h => h) (Or.inl ⟨by rfl, fun V hV => ?_⟩) hS ?_
      · go_simp
      simp only [Act.put, List.getElem_toArray, List.getElem_cons_zero, List.getElem_cons_succ, List.setIfInBounds_toArray, List.set_cons_zero, List.set_cons_succ]
      refine wpAnyH_take (i := 5) (v := .agg #[.int .i64 (x.k : Int), .int .i64 (x.a : Int), .string ⟨x.t.toArray⟩]) rfl (by kernel_rfl) (by kernel_rfl) (by kernel_rfl) (fun _ _ _ h => h) (Or.inl ⟨by rfl, fun V hV => ?_⟩) hS ?_
      · obtain ⟨z1, z2, z3, z4, z5, z6, z7, z8⟩ := hV; go_simp
      simp only [Act.put, List.getElem_toArray, List.getElem_cons_zero, List.getElem_cons_succ, List.setIfInBounds_toArray, List.set_cons_zero, List.set_cons_succ]
      refine wpAnyH_take (i := 6) (v := .slice (some ⟨g, 0, none⟩) L.length cL) rfl (by kernel_rfl) (by kernel_rfl) (by kernel_rfl) (fun _ _ _ h => h) (Or.inl ⟨by rfl, fun V hV => ?_⟩) hS ?_
      · obtain ⟨z1, z2, z3, z4, z5, z6, z7, z8⟩ := hV; go_simp
      simp only [Act.put, List.getElem_toArray, List.getElem_cons_zero, List.getElem_cons_succ, List.setIfInBounds_toArray, List.set_cons_zero, List.set_cons_succ]
      refine wpAnyH_take (i := 7) (v := .int .i64 (k : Int)) rfl (by kernel_rfl) (by kernel_rfl) (by kernel_rfl) (fun _ _ _ h => h) (Or.inl ⟨by rfl, fun V hV => ?_⟩) hS ?_
      · obtain ⟨z1, z2, z3, z4, z5, z6, z7, z8⟩ := hV; go_simp
      simp only [Act.put, List.getElem_toArray, List.getElem_cons_zero, List.getElem_cons_succ, List.setIfInBounds_toArray, List.set_cons_zero, List.set_cons_succ]
      refine wpAnyH_take (i := 8) (v := .pointer (some ⟨g, k * 3, none⟩)) rfl (by kernel_rfl) (by kernel_rfl) (by kernel_rfl) (fun _ _ _ h => h) (Or.inl ⟨by rfl, fun V hV => ?_⟩) hS ?_
      · go_simp
      simp only [Act.put, List.getElem_toArray, List.getElem_cons_zero, List.getElem_cons_succ, List.setIfInBounds_toArray, List.set_cons_zero, List.set_cons_succ]
      refine wpAnyH_take (i := 9) (v := .agg #[.int .i64 (x.k : Int), .int .i64 (x.a : Int), .string ⟨x.t.toArray⟩]) rfl (by kernel_rfl) (by kernel_rfl) (by kernel_rfl) (fun _ _ _ h => h) (Or.inl ⟨by rfl, fun V hV => ?_⟩) hS ?_
      · obtain ⟨z1, z2, z3, z4, z5, z6, z7, z8⟩ := hV; go_simp
      simp only [Act.put, List.getElem_toArray, List.getElem_cons_zero, List.getElem_cons_succ, List.setIfInBounds_toArray, List.set_cons_zero, List.set_cons_succ]
      refine wpAnyH_take (i := 10) (v := .bool false) rfl (by kernel_rfl) (by kernel_rfl) (by kernel_rfl) (fun _ _ _ h => h) (Or.inl ⟨by rfl, fun V hV => ?_⟩) hS ?_
      · go_simp
      simp only [Act.put, List.getElem_toArray, List.getElem_cons_zero, List.getElem_cons_succ, List.setIfInBounds_toArray, List.set_cons_zero, List.set_cons_succ]
      refine wpAnyH_take (i := 11) (v := .bool false) rfl (by kernel_rfl) (by kernel_rfl) (by kernel_rfl) (fun _ _ _ h => h) (Or.inl ⟨by rfl, fun V hV => ?_⟩) hS ?_
      · go_simp
      simp only [Act.put, List.getElem_toArray, List.getElem_cons_zero, List.getElem_cons_succ, List.setIfInBounds_toArray, List.set_cons_zero, List.set_cons_succ]
      refine wpAnyH_done (by kernel_rfl) ?_ _
      have m4 : Boxed ((X.setCell ⟨w2.heap.size + 1, 0, none⟩ (.int .i64 (k1 : Int))).drew) (w.heap.size + 1) 4 (.bool false) := Boxed.other N4.out (by omega) _
      have hbX : Below w.heap.size w X := below_trans HBW.out HI'.out.b
      have hbW1 : Below w.heap.size w ((X.setCell ⟨w2.heap.size + 1, 0, none⟩ (.int .i64 (k1 : Int))).drew) := (hbX.setCell (show w.heap.size ≤ w2.heap.size + 1 by omega) _).drew
      have M4 := hide m4
      have HBX := hide hbW1
      clear m4 hbX hbW1 hS
      by_cases hlv : (k1 : Int) = lv
      · subst hlv
        gi_wp2_with (first
          | ((refine ⟨trivial, ?_⟩); gi_at_call 11; refine CallsIn.mono (CallsIn.inRound _ (callsIn_wide.2 (HH.out _ (HE.out _ HBX.out)))) ?_; rintro e' w5 ⟨rfl, hb5⟩; have HB5 := hide hb5; have m5 : Boxed w5 (w.heap.size + 1) 4 (.bool false) := Blk.later M4.out hb5; have mc5 := m5.cell; have mf5 := m5.frozen; have M5 := hide m5; clear hb5 m5))
        have hI := HI'.out
        have h8 := hI.r8
        have hs5 := HB5.out.size
        simp at hs5
        have same : ∀ j, j < X.heap.size → j ≠ w2.heap.size + 1 → j ≠ w.heap.size + 1 → (w5.setCell ⟨w.heap.size + 1, 0, none⟩ (.bool true)).heap[j]? = X.heap[j]? := fun j h1 h2 h3 =>
          (Below.heap_setCell _ _ _ _ h3).trans ((HB5.out.block j (by simp; exact h1)).trans (Below.heap_setCell _ _ _ _ h2))
        obtain ⟨y1, y2⟩ := la_keeps N4.out h8 hszw hzX (by simp; exact hs5) same
        rw [hz0]
        exact ⟨y1, y2, ⟨(below_trans HBX.out HB5.out).setCell (show w.heap.size ≤ w.heap.size + 1 by omega) _, M5.out.set _⟩⟩
      · have ev : ((k1 : Int) == lv) = false := by simp [hlv]
        gi_wp2
        have hI := HI'.out
        have h8 := hI.r8
        have hk1 := HK1.out
        have same : ∀ j, j < X.heap.size → j ≠ w2.heap.size + 1 → j ≠ w.heap.size + 1 → ((X.setCell ⟨w2.heap.size + 1, 0, none⟩ (.int .i64 (k1 : Int))).drew).heap[j]? = X.heap[j]? := fun j h1 h2 h3 => Below.heap_setCell _ _ _ _ h2
        obtain ⟨y1, y2⟩ := la_keeps N4.out h8 hszw hzX (by simp) same
        rw [hz0]
        refine ⟨y1, y2, ⟨(hI.b.setCell (show w2.heap.size ≤ w2.heap.size + 1 by omega) _).drew, (same _ (by omega) (by omega) (by omega)).trans hI.r5, ?_, by simp; omega⟩⟩
        rw [← hk1]
        exact hI.r8.set _
    case done =>
      rintro D X hD hI hK0
      have hbX : Below w.heap.size w X := below_trans HBW.out hI.b
      have n4 : Boxed X (w.heap.size + 1) 4 (.bool false) := (hI.b.block _ (by omega)).trans G4.out
      have hDX := (Array.getElem?_eq_some_iff.1 hK0).1
      have N4 := hide n4
      have HBX := hide hbX
      have HI' := hide hI
      have HK := hide hK0
      clear hI hK0 n4 hbX h0 hseq hL5 hb0 k5 k8 kA hbw hE hG hT
      gi_wp2_with (first
        | ((refine ⟨trivial, ?_⟩); gi_at_call 11; refine CallsIn.mono (callsIn_wide.2 (HH.out _ (HE.out _ HBX.out))) ?_; rintro e' w5 ⟨rfl, hb5⟩; have HB5 := hide hb5; have m4 : Boxed w5 (w.heap.size + 1) 4 (.bool false) := Blk.later N4.out hb5; have m5 : Boxed w5 w2.heap.size 22 (.slice pL L.length cL) := Blk.later HI'.out.r5 hb5; have m8 : Boxed w5 (w2.heap.size + 1) 3 (.int .i64 (L.length : Int)) := Blk.later HI'.out.r8 hb5; have mc4 := m4.cell; have mf4 := m4.frozen; have mc5 := m5.cell; have mc8 := m8.cell; have M4 := hide m4; clear hb5 m4 m5 m8))
      have kD : (w5.setCell ⟨w.heap.size + 1, 0, none⟩ (.bool true)).heap[D]? = some (.deferred (some [])) := (Below.heap_setCell _ _ _ _ (by simp; omega)).trans ((HB5.out.block D hDX).trans HK.out)
      exact la_leave kD (M4.out.set _) (by rfl) ⟨rfl, ((below_trans HBX.out HB5.out).setCell (show w.heap.size ≤ w.heap.size + 1 by omega) _).trans (belowK_b (w := w) (Nat.le_refl _) _ D _ _ (by omega) kD rfl rfl)⟩
    case stop =>
      rintro D k X hD hk hx hK0
      exact la_leave hK0 hx.r4 (by rfl) ⟨rfl, hx.b.trans (belowK_b (w := w) (Nat.le_refl _) X D _ _ (by have := HBW.out.size; omega) hK0 rfl rfl)⟩
  · have l1 : ¬ (2000 : Int) < (s.size : Int) := by omega
    gi_wp2_with (first
      | ((refine ⟨trivial, ?_⟩); gi_at_call 11; refine CallsIn.mono (callsIn_wide.2 (HH.out _ (HE.out _ HB1.out))) ?_; rintro e' w1 ⟨rfl, hx⟩; have HX1 := hide hx; clear hx)
      | ((refine ⟨trivial, ?_⟩); gi_at_call 13; refine CallsIn.mono (callsIn_wide.2 (HT.out _)) ?_; rintro e' w2 ⟨v1, v2, rfl, h1, h2, h3⟩; obtain ⟨p1, c1, rfl, q1⟩ := tkAt_own h1; obtain ⟨p2, c2, rfl, q2⟩ := inAt_own h2; have HQ1 := hide q1; have HB2 := hide h3; clear h1 h2 h3 q1 q2)
      | ((refine ⟨trivial, ?_⟩); gi_at_call 14; refine CallsIn.mono (callsIn_wide.2 (HA.out _)) ?_; rintro e' w3 ⟨rfl, rfl⟩))
    obtain ⟨W0, hW0⟩ : ∃ W0, W0 = ((w2.alloc (.cells #[.slice p1 T.length c1] 22)).alloc (.cells #[.int .i64 0] 3)).alloc (.cells #[.string s] 9) := ⟨_, rfl⟩
    obtain ⟨hz0, hb0, k5, k8, kA⟩ := w0_facts w2 _ s hW0
    have hbw : Below w.heap.size w W0 := below_trans HB1.out (below_trans HX1.out (below_trans HB2.out hb0))
    have hL : ∃ (L : List Tk) (pL : Option Addr) (cL : Nat), Boxed W0 w2.heap.size 22 (.slice pL L.length cL) ∧ L.length ≤ 1048576 ∧
        (0 < L.length → ∃ g, pL = some ⟨g, 0, none⟩ ∧ ∀ V, Below w2.heap.size w2 V → ∀ (i : Nat) (x : Tk), L[i]? = some x → V.cell? ⟨g, i * 3, none⟩ = some (.int .i64 (x.k : Int)) ∧ V.cell? ⟨g, i * 3 + 1, none⟩ = some (.int .i64 (x.a : Int)) ∧ V.cell? ⟨g, i * 3 + 2, none⟩ = some (.string ⟨x.t.toArray⟩)) ∧
        (∀ V, Below W0.heap.size W0 V → V.heap.size = W0.heap.size + 2 → SeqM 8 28 #[.pointer (some ⟨w2.heap.size + 1 + 1, 0, none⟩)] L.length (itA G) (KpC (w2.heap.size + 1 + 1) (W0.heap.size + 2)) V) ∧
        (∀ k x, L[k]? = some x → (gx G k).1 = x) := by
      refine ⟨T, p1, c1, k5, by omega, HQ1.out, fun V hV hVz => ?_, fun k x h => ?_⟩
      · have := all_L s (by omega) G hG 8 (w2.heap.size + 1 + 1) (KpC (w2.heap.size + 1 + 1) (W0.heap.size + 2)) V (fun X Y h => by rw [hVz]; exact h) (Blk.later kA hV) ((HE.out _ hbw).below hV)
        rw [hT] at this
        exact this
      · have hk : k < (toksS s.data.toList).1.length := by rw [hT]; exact (List.getElem?_eq_some_iff.1 h).1
        have h1 := (wk_get hG hk).1
        rw [hT] at h1
        exact (Option.some.inj (h.symm.trans h1)).symm
    rw [← hW0]
    clear hW0
    obtain ⟨L, pL, cL, hL5, hLn, hLq, hseq, hit⟩ := hL
    have HLq := hide hLq
    have HIt := hide hit
    have hsz1 := HX1.out.size
    have hsz2 := HB2.out.size
    have hszw : w.heap.size + 2 ≤ w2.heap.size := by simp at hsz1; omega
    have hbw2 : Below w.heap.size w w2 := below_trans HB1.out (below_trans HX1.out HB2.out)
    have ew : (w.alloc (.cells #[.int .i64 lv] 3)).heap.size = w.heap.size + 1 := by simp
    have g3 : Boxed w2 w.heap.size 3 (.int .i64 lv) := Blk.later (Blk.later (show Blk ((w.alloc (.cells #[.int .i64 lv] 3)).alloc (.cells #[.bool false] 4)) w.heap.size #[.int .i64 lv] 3 from (Boxed.new w _ _).alloc _) HX1.out) HB2.out
    have g4 : Boxed w2 (w.heap.size + 1) 4 (.bool false) := Blk.later (Blk.later (show Blk ((w.alloc (.cells #[.int .i64 lv] 3)).alloc (.cells #[.bool false] 4)) (w.heap.size + 1) #[.bool false] 4 by rw [← ew]; exact Boxed.new _ _ _) HX1.out) HB2.out
    have G3 := hide g3
    have G4 := hide g4
    have HBW := hide hbw2
    have h0 : LaI w2 (.slice pL L.length cL) 0 W0 := ⟨hb0, hL5, k8, by omega⟩
    clear hLq hit g3 g4 hbw2 ew
    refine range_M (by omega) (gf := 28) (lb := #[.pointer (some ⟨w2.heap.size + 1 + 1, 0, none⟩)]) rfl (enters_of Tryd.func28 (by kernel_rfl) rfl)
      hseq (fun h h' => kpC_trans h h')
      (fun X o o' ho hc => ⟨kpT_put (by omega) (by omega) ho hc, by simp, fun j hj _ => World.putObj_heap_other (by omega)⟩) (fun _ => rfl)
      (LaI w2 (.slice pL L.length cL)) (LaX w) (LaI.own (by omega)) (LaX.own (by omega)) h0
      (fun k a' X => ∃ u y, a' = laF w.heap.size w2.heap.size s lv bad (.slice p1 T.length c1) (.slice p2 E.length c2) (gx G k).1 u y ∧ Blk X u #[.int .i64 ((gx G k).1.k : Int), .int .i64 ((gx G k).1.a : Int), .string ⟨(gx G k).1.t.toArray⟩] 39)
      (fun a' k X Y row hs hg hr => by
        obtain ⟨u, y, h1, h2⟩ := hs
        refine ⟨u, y, h1, (hg.block u h2.lt fun e => ?_).trans h2⟩
        obtain ⟨o, ho, hc⟩ := (hr u e.symm).2
        rw [show X.heap[u]? = _ from h2] at ho; cases ho; cases hc) ?assign ?body ?done ?stop
    case assign =>
      intro l2 k X Kk hk hI hKk
      have HKk := hide hKk
      have HI' := hide hI
      clear hKk hI
      simp only [itA]
      obtain ⟨gt, hgt⟩ : ∃ gt, gx G k = gt := ⟨_, rfl⟩
      rw [hgt]
      rw [hgt] at HKk
      clear hgt
      gi_wp2
      have hbA : Below X.heap.size X (X.alloc (.cells #[.int .i64 (gt.1.k : Int), .int .i64 (gt.1.a : Int), .string ⟨gt.1.t.toArray⟩] 39)) := below_alloc X _
      have hz := HI'.out.z
      refine HKk.out _ _ (KeepsFrom.of_grownBy (grown_of_below hbA) (fun j e => by cases e)) ⟨kpT_below hbA (by omega) (by omega), hbA.size, fun j _ hx => hbA.block j hx⟩ ((LaI.own (Nat.le_trans (show w2.heap.size ≤ w2.heap.size + 3 by omega) hz)) _ _ _ none HI'.out (grown_of_below hbA) (fun r e => by cases e)) ⟨X.heap.size, _, rfl, Blk.new X _ _⟩
    case body =>
      rintro l2 k a' X hlp hk hI ⟨u, y, rfl, hu⟩
      obtain ⟨x, hx⟩ : ∃ x, L[k]? = some x := ⟨L[k], List.getElem?_eq_getElem hk⟩
      rw [HIt.out k x hx] at hu ⊢
      obtain ⟨g, rfl, hq⟩ := HLq.out (by omega)
      obtain ⟨q0, q1, q2⟩ := hq X hI.b k x hx
      have HU := hide hu
      have HI' := hide hI
      have d0 := hu.cell 0
      have d1 := hu.cell 1
      have d2 := hu.cell 2
      have d5 := hI.r5.cell
      have d8 := hI.r8.cell
      have f8 := hI.r8.frozen
      have n3 : Boxed X w.heap.size 3 (.int .i64 lv) := (hI.b.block _ (by omega)).trans G3.out
      have n4 : Boxed X (w.heap.size + 1) 4 (.bool false) := (hI.b.block _ (by omega)).trans G4.out
      have d3 := n3.cell
      have d4 := n4.cell
      have f4 := n4.frozen
      have N4 := hide n4
      have hzX := hI.z
      have l2' : (k : Int) < (L.length : Int) := by omega
      have l3 : (0 : Int) ≤ (k : Int) := by omega
      obtain ⟨k1, hk1⟩ : ∃ k1, k1 = k + 1 := ⟨_, rfl⟩
      have hw : IntKind.i64.wrap ((k : Int) + 1) = (k1 : Int) := by rw [IntKind.wrap_i64]; omega
      have HK1 := hide hk1
      clear hu hI hq n3 n4 hk1 h0 hseq hL5 hb0 k5 k8 kA hbw hE hG hT
      simp only [laF]
      gi_wp2
      refine region_in (S := fun V => V.cell? ⟨w2.heap.size + 1, 0, none⟩ = some (.int .i64 (k : Int)) ∧ V.cell? ⟨w2.heap.size, 0, none⟩ = some (.slice (some ⟨g, 0, none⟩) L.length cL) ∧ V.cell? ⟨u, 0, none⟩ = some (.int .i64 (x.k : Int)) ∧ V.cell? ⟨u, 1, none⟩ = some (.int .i64 (x.a : Int)) ∧ V.cell? ⟨u, 2, none⟩ = some (.string ⟨x.t.toArray⟩) ∧
        V.cell? ⟨g, k * 3, none⟩ = some (.int .i64 (x.k : Int)) ∧ V.cell? ⟨g, k * 3 + 1, none⟩ = some (.int .i64 (x.a : Int)) ∧ V.cell? ⟨g, k * 3 + 2, none⟩ = some (.string ⟨x.t.toArray⟩)) (by kernel_rfl) (by kernel_rfl) (fun ⟨_, _, h⟩ => h) ⟨d8, d5, d0, d1, d2, q0, q1, q2⟩ (fun hS => ?_)
      refine wpAnyH_take (i := 0) (v := .int .i64 (k : Int)) rfl (by kernel_rfl) (by kernel_rfl) (by kernel_rfl) (fun _ _ _ h => h) (Or.inl ⟨by rfl, fun V hV => ?_⟩) hS ?_
      · obtain ⟨z1, z2, z3, z4, z5, z6, z7, z8⟩ := hV; go_simp
      simp only [Act.put, List.getElem_toArray, List.getElem_cons_zero, List.setIfInBounds_toArray, List.set_cons_zero, List.set_cons_succ]
      refine wpAnyH_take (i := 1) (v := .slice (some ⟨g, 0, none⟩) L.length cL) rfl (by kernel_rfl) (by kernel_rfl) (by kernel_rfl) (fun _ _ _ h => h) (Or.inl ⟨by rfl, fun V hV => ?_⟩) hS ?_
      · obtain ⟨z1, z2, z3, z4, z5, z6, z7, z8⟩ := hV; go_simp
      simp only [Act.put, List.getElem_toArray, List.getElem_cons_zero, List.getElem_cons_succ, List.setIfInBounds_toArray, List.set_cons_zero, List.set_cons_succ]
      refine wpAnyH_take (i := 2) (v := .int .i64 (L.length : Int)) rfl (by kernel_rfl) (by kernel_rfl) (by kernel_rfl) (fun _ _ _ h => h) (Or.inl ⟨by rfl, fun V hV => ?_⟩) hS ?_
      · go_simp
      simp only [Act.put, List.getElem_toArray, List.getElem_cons_zero, List.getElem_cons_succ, List.setIfInBounds_toArray, List.set_cons_zero, List.set_cons_succ]
      refine wpAnyH_take (i := 3) (v := .bool false) rfl (by kernel_rfl) (by kernel_rfl) (by kernel_rfl) (fun _ _ _ h => h) (Or.inl ⟨by rfl, fun V hV => ?_⟩) hS ?_
      · go_simp
      simp only [Act.put, List.getElem_toArray, List.getElem_cons_zero, List.getElem_cons_succ, List.setIfInBounds_toArray, List.set_cons_zero, List.set_cons_succ]
      refine wpAnyH_take (i := 4) (v := .bool false) rfl (by kernel_rfl) (by kernel_rfl) (by kernel_rfl) (fun _ _ _ h => h) (Or.inl ⟨by rfl, fun V hV => ?_⟩) hS ?_
      · go_simp
      simp only [Act.put, List.getElem_toArray, List.getElem_cons_zero, List.getElem_cons_succ, List.setIfInBounds_toArray, List.set_cons_zero, List.set_cons_succ]
      refine wpAnyH_take (i := 5) (v := .agg #[.int .i64 (x.k : Int), .int .i64 (x.a : Int), .string ⟨x.t.toArray⟩]) rfl (by kernel_rfl) (by kernel_rfl) (by kernel_rfl) (fun _ _ _ h => h) (Or.inl ⟨by rfl, fun V hV => ?_⟩) hS ?_
      · obtain ⟨z1, z2, z3, z4, z5, z6, z7, z8⟩ := hV; go_simp
      simp only [Act.put, List.getElem_toArray, List.getElem_cons_zero, List.getElem_cons_succ, List.setIfInBounds_toArray, List.set_cons_zero, List.set_cons_succ]
      refine wpAnyH_take (i := 6) (v := .slice (some ⟨g, 0, none⟩) L.length cL) rfl (by kernel_rfl) (by kernel_rfl) (by kernel_rfl) (fun _ _ _ h => h) (Or.inl ⟨by rfl, fun V hV => ?_⟩) hS ?_
      · obtain ⟨z1, z2, z3, z4, z5, z6, z7, z8⟩ := hV; go_simp
      simp only [Act.put, List.getElem_toArray, List.getElem_cons_zero, List.getElem_cons_succ, List.setIfInBounds_toArray, List.set_cons_zero, List.set_cons_succ]
      refine wpAnyH_take (i := 7) (v := .int .i64 (k : Int)) rfl (by kernel_rfl) (by kernel_rfl) (by kernel_rfl) (fun _ _ _ h => h) (Or.inl ⟨by rfl, fun V hV => ?_⟩) hS ?_
      · obtain ⟨z1, z2, z3, z4, z5, z6, z7, z8⟩ := hV; go_simp
      simp only [Act.put, List.getElem_toArray, List.getElem_cons_zero, List.getElem_cons_succ, List.setIfInBounds_toArray, List.set_cons_zero, List.set_cons_succ]
      refine wpAnyH_take (i := 8) (v := .pointer (some ⟨g, k * 3, none⟩)) rfl (by kernel_rfl) (by kernel_rfl) (by kernel_rfl) (fun _ _ _ h => h) (Or.inl ⟨by rfl, fun V hV => ?_⟩) hS ?_
      · go_simp
      simp only [Act.put, List.getElem_toArray, List.getElem_cons_zero, List.getElem_cons_succ, List.setIfInBounds_toArray, List.set_cons_zero, List.set_cons_succ]
      refine wpAnyH_take (i := 9) (v := .agg #[.int .i64 (x.k : Int), .int .i64 (x.a : Int), .string ⟨x.t.toArray⟩]) rfl (by kernel_rfl) (by kernel_rfl) (by kernel_rfl) (fun _ _ _ h => h) (Or.inl ⟨by rfl, fun V hV => ?_⟩) hS ?_
      · obtain ⟨z1, z2, z3, z4, z5, z6, z7, z8⟩ := hV; go_simp
      simp only [Act.put, List.getElem_toArray, List.getElem_cons_zero, List.getElem_cons_succ, List.setIfInBounds_toArray, List.set_cons_zero, List.set_cons_succ]
      refine wpAnyH_take (i := 10) (v := .bool false) rfl (by kernel_rfl) (by kernel_rfl) (by kernel_rfl) (fun _ _ _ h => h) (Or.inl ⟨by rfl, fun V hV => ?_⟩) hS ?_
      · go_simp
      simp only [Act.put, List.getElem_toArray, List.getElem_cons_zero, List.getElem_cons_succ, List.setIfInBounds_toArray, List.set_cons_zero, List.set_cons_succ]
      refine wpAnyH_take (i := 11) (v := .bool false) rfl (by kernel_rfl) (by kernel_rfl) (by kernel_rfl) (fun _ _ _ h => h) (Or.inl ⟨by rfl, fun V hV => ?_⟩) hS ?_
      · go_simp
      simp only [Act.put, List.getElem_toArray, List.getElem_cons_zero, List.getElem_cons_succ, List.setIfInBounds_toArray, List.set_cons_zero, List.set_cons_succ]
      refine wpAnyH_done (by kernel_rfl) ?_ _
      have m4 : Boxed ((X.setCell ⟨w2.heap.size + 1, 0, none⟩ (.int .i64 (k1 : Int))).drew) (w.heap.size + 1) 4 (.bool false) := Boxed.other N4.out (by omega) _
      have hbX : Below w.heap.size w X := below_trans HBW.out HI'.out.b
      have hbW1 : Below w.heap.size w ((X.setCell ⟨w2.heap.size + 1, 0, none⟩ (.int .i64 (k1 : Int))).drew) := (hbX.setCell (show w.heap.size ≤ w2.heap.size + 1 by omega) _).drew
      have M4 := hide m4
      have HBX := hide hbW1
      clear m4 hbX hbW1 hS
      by_cases hlv : (k1 : Int) = lv
      · subst hlv
        gi_wp2_with (first
          | ((refine ⟨trivial, ?_⟩); gi_at_call 11; refine CallsIn.mono (CallsIn.inRound _ (callsIn_wide.2 (HH.out _ (HE.out _ HBX.out)))) ?_; rintro e' w5 ⟨rfl, hb5⟩; have HB5 := hide hb5; have m5 : Boxed w5 (w.heap.size + 1) 4 (.bool false) := Blk.later M4.out hb5; have mc5 := m5.cell; have mf5 := m5.frozen; have M5 := hide m5; clear hb5 m5))
        have hI := HI'.out
        have h8 := hI.r8
        have hs5 := HB5.out.size
        simp at hs5
        have same : ∀ j, j < X.heap.size → j ≠ w2.heap.size + 1 → j ≠ w.heap.size + 1 → (w5.setCell ⟨w.heap.size + 1, 0, none⟩ (.bool true)).heap[j]? = X.heap[j]? := fun j h1 h2 h3 =>
          (Below.heap_setCell _ _ _ _ h3).trans ((HB5.out.block j (by simp; exact h1)).trans (Below.heap_setCell _ _ _ _ h2))
        obtain ⟨y1, y2⟩ := la_keeps N4.out h8 hszw hzX (by simp; exact hs5) same
        rw [hz0]
        exact ⟨y1, y2, ⟨(below_trans HBX.out HB5.out).setCell (show w.heap.size ≤ w.heap.size + 1 by omega) _, M5.out.set _⟩⟩
      · have ev : ((k1 : Int) == lv) = false := by simp [hlv]
        gi_wp2
        have hI := HI'.out
        have h8 := hI.r8
        have hk1 := HK1.out
        have same : ∀ j, j < X.heap.size → j ≠ w2.heap.size + 1 → j ≠ w.heap.size + 1 → ((X.setCell ⟨w2.heap.size + 1, 0, none⟩ (.int .i64 (k1 : Int))).drew).heap[j]? = X.heap[j]? := fun j h1 h2 h3 => Below.heap_setCell _ _ _ _ h2
        obtain ⟨y1, y2⟩ := la_keeps N4.out h8 hszw hzX (by simp) same
        rw [hz0]
        refine ⟨y1, y2, ⟨(hI.b.setCell (show w2.heap.size ≤ w2.heap.size + 1 by omega) _).drew, (same _ (by omega) (by omega) (by omega)).trans hI.r5, ?_, by simp; omega⟩⟩
        rw [← hk1]
        exact hI.r8.set _
    case done =>
      rintro D X hD hI hK0
      have hbX : Below w.heap.size w X := below_trans HBW.out hI.b
      have n4 : Boxed X (w.heap.size + 1) 4 (.bool false) := (hI.b.block _ (by omega)).trans G4.out
      have hDX := (Array.getElem?_eq_some_iff.1 hK0).1
      have N4 := hide n4
      have HBX := hide hbX
      have HI' := hide hI
      have HK := hide hK0
      clear hI hK0 n4 hbX h0 hseq hL5 hb0 k5 k8 kA hbw hE hG hT
      gi_wp2_with (first
        | ((refine ⟨trivial, ?_⟩); gi_at_call 11; refine CallsIn.mono (callsIn_wide.2 (HH.out _ (HE.out _ HBX.out))) ?_; rintro e' w5 ⟨rfl, hb5⟩; have HB5 := hide hb5; have m4 : Boxed w5 (w.heap.size + 1) 4 (.bool false) := Blk.later N4.out hb5; have m5 : Boxed w5 w2.heap.size 22 (.slice pL L.length cL) := Blk.later HI'.out.r5 hb5; have m8 : Boxed w5 (w2.heap.size + 1) 3 (.int .i64 (L.length : Int)) := Blk.later HI'.out.r8 hb5; have mc4 := m4.cell; have mf4 := m4.frozen; have mc5 := m5.cell; have mc8 := m8.cell; have M4 := hide m4; clear hb5 m4 m5 m8))
      have kD : (w5.setCell ⟨w.heap.size + 1, 0, none⟩ (.bool true)).heap[D]? = some (.deferred (some [])) := (Below.heap_setCell _ _ _ _ (by simp; omega)).trans ((HB5.out.block D hDX).trans HK.out)
      exact la_leave kD (M4.out.set _) (by rfl) ⟨rfl, ((below_trans HBX.out HB5.out).setCell (show w.heap.size ≤ w.heap.size + 1 by omega) _).trans (belowK_b (w := w) (Nat.le_refl _) _ D _ _ (by omega) kD rfl rfl)⟩
    case stop =>
      rintro D k X hD hk hx hK0
      exact la_leave hK0 hx.r4 (by rfl) ⟨rfl, hx.b.trans (belowK_b (w := w) (Nat.le_refl _) X D _ _ (by have := HBW.out.size; omega) hK0 rfl rfl)⟩
end Go.Proofs.YtkooijhdjjdigaaDoor
