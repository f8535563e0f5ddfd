/- The program's Split. -/
import Derived.Test.YtkooijhdjjdigaaDoorCMc
import Derived.Test.YtkooijhdjjdigaaDoorKS
import Derived.Test.YtkooijhdjjdigaaDoorCNb
import Derived.Laws.OwnMore
namespace Go.Proofs.YtkooijhdjjdigaaDoor
open Go.ChangeShapes Go.WideShapes Go.ChangeAt Go.RowKit Go.Shelf
set_option linter.unusedVariables false
attribute [local go_sem] Oper.semAt_some

def frV : Option Nat → Value
  | none => .int .i64 (-1)
  | some a => .int .i64 (a : Int)
/-- What Split's loop holds between two rounds. -/
structure SpI (w : World) (s : ByteArray) (G : List (Tk × Nat)) (z : Nat) (k : Nat) (W : World) : Prop where
  r1 : Boxed W w.heap.size 9 (.string s)
  r2 : Boxed W (w.heap.size + 1) 48 (.slice none 0 0)
  r3 : Boxed W (w.heap.size + 1 + 1) 23 (.int .i64 0)
  r5 : Boxed W (w.heap.size + 1 + 1 + 1 + 1) 3 (frV (spf s.data.toList G k).2)
  bA : Boxed W (w.heap.size + 1 + 1 + 1 + 1 + 1) 9 (.string s)
  row : ∃ v, Boxed W (w.heap.size + 1 + 1 + 1) 48 v ∧ W.ownsRow (w.heap.size + 6) 9 1 v (spf s.data.toList G k).1.length (stL (spf s.data.toList G k).1)
  b : Below w.heap.size w W
  z : z ≤ W.heap.size
  ok : ∀ j, j < k → (gx G j).1.k ≠ 0
theorem SpI.own {w : World} {s : ByteArray} {G : List (Tk × Nat)} {z B : Nat} (hB : w.heap.size ≤ B) : StableL B (SpI w s G z) := by
  intro k X Y row h hg hr
  have hr2 : ∀ r, row = some r → ∃ o : Obj, X.heap[r]? = some o ∧ o.isCells = false := fun r e => (hr r e).2
  refine ⟨boxed_own h.r1 hg hr2, boxed_own h.r2 hg hr2, boxed_own h.r3 hg hr2, boxed_own h.r5 hg hr2, boxed_own h.bA hg hr2, ?_, ?_, Nat.le_trans h.z hg.size, h.ok⟩
  · obtain ⟨v, h1, h2⟩ := h.row
    obtain ⟨v', h3, h4, _⟩ := holdsRow_own (w.heap.size + 6) _ _ _ 1 (fun u : Unit => (spf s.data.toList G k).1.length) (fun u => stL (spf s.data.toList G k).1) (fun u v => True) () X Y row ⟨v, h1, h2, trivial⟩ hg hr2
    exact ⟨v', h3, h4⟩
  · exact ownFrom_below (β := Unit) (w₀ := w) (Nat.le_refl _) hB () X Y row h.b hg hr
/-- What Split's results hold where a token is none. -/
structure SpX (w : World) (G : List (Tk × Nat)) (k : Nat) (W : World) : Prop where
  r2 : Boxed W (w.heap.size + 1) 48 (.slice none 0 0)
  at_ : (gx G k).1.k = 0
  r3 : Boxed W (w.heap.size + 1 + 1) 23 (.int .i64 250)
  b : Below w.heap.size w W
theorem SpX.own {w : World} {G : List (Tk × Nat)} {B : Nat} (hB : w.heap.size ≤ B) : StableL B (SpX w G) := by
  intro k X Y row h hg hr
  have hr2 : ∀ r, row = some r → ∃ o : Obj, X.heap[r]? = some o ∧ o.isCells = false := fun r e => (hr r e).2
  exact ⟨boxed_own h.r2 hg hr2, h.at_, boxed_own h.r3 hg hr2, ownFrom_below (β := Unit) (w₀ := w) (Nat.le_refl _) hB () X Y row h.b hg hr⟩
theorem sp_res {V : World} {tmps : Array Value} {p2 p3 : Nat} {v x : Value} (b2 : Boxed V p2 48 v) (b3 : Boxed V p3 23 x)
    (h2 : tmps.getD 2 undef = .pointer (some ⟨p2, 0, none⟩)) (h3 : tmps.getD 3 undef = .pointer (some ⟨p3, 0, none⟩)) : (results Tryd.f21 tmps).run Tryd.prog V = .ok (.tuple #[v, x]) V := by
  have c2 := b2.cell
  have c3 := b3.cell
  have l2 : (loadVar 48 ⟨p2, 0, none⟩).run Tryd.prog V = .ok v V := by simp [go_sem, c2]
  have l3 : (loadVar 23 ⟨p3, 0, none⟩).run Tryd.prog V = .ok x V := by simp [go_sem, c3]
  have t2 : tmps[2]?.getD undef = .pointer (some ⟨p2, 0, none⟩) := by simpa using h2
  have t3 : tmps[3]?.getD undef = .pointer (some ⟨p3, 0, none⟩) := by simpa using h3
  simp [results, Tryd.results21, t2, t3, asAddr, l2, l3]
theorem sp_leave {W : World} {D : Nat} {tmps : Array Value} {p2 p3 : Nat} {v x : Value} (hD : W.heap[D]? = some (.deferred (some []))) (b2 : Boxed W p2 48 v) (b3 : Boxed W p3 23 x)
    (h2 : tmps.getD 2 undef = .pointer (some ⟨p2, 0, none⟩)) (h3 : tmps.getD 3 undef = .pointer (some ⟨p3, 0, none⟩)) {R : Ending → World → Prop} (hR : R (.returned (.tuple #[v, x])) (W.putObj D (.deferred none))) :
    bodyPostM Fence.wide 9 Tryd.prog Tryd.f21 R Exit.ret { tmps := tmps, defers := [{ target := .collected D, args := #[] }] } W := by
  have hg : W.grownBy (W.putObj D (.deferred none)) (some D) := grownBy_putObj' W D (.deferred none)
  have ne : ∀ {B t : Nat} {u : Value}, Boxed W B t u → some B ≠ some D := fun h e => by
    cases e
    rw [show W.heap[_]? = _ from h] at hD; cases hD
  exact ⟨by simp, .inl ⟨D, _, rfl, run_takeDeferred hD, ⟨.tuple #[v, x], sp_res (b2.kept hg (ne b2)) (b3.kept hg (ne b3)) h2 h3, hR⟩⟩⟩
/-- A string's box ahead of a row is none of the row's. -/
theorem not_row_lt {W : World} {n0 n B : Nat} {v : Value} {xs : List Value} (h : W.ownsRow n0 9 1 v n xs) (hB : B < n0) : some B ≠ v.ownBlock := by
  rcases h.2 with ⟨rfl, _⟩ | ⟨g, cap, cur, rfl, hb, _⟩
  · simp [Value.ownBlock]
  · intro e; simp [Value.ownBlock] at e; omega
theorem piece (s : ByteArray) (a e : Nat) : s.extract a e = (⟨((s.data.toList.take e).drop a).toArray⟩ : ByteArray) := by
  refine ByteArray.ext ?_
  rw [← ext_list]
theorem stL_last {O : List (List UInt8)} {m : Nat} (h : O.length = m + 1) (x : List UInt8) : (stL O).set m (.string ⟨x.toArray⟩) = stL (O.dropLast ++ [x]) ∧ (O.dropLast ++ [x]).length = O.length := by
  rcases List.eq_nil_or_concat O with rfl | ⟨Y, y, rfl⟩
  · simp at h
  · simp at h
    subst h
    simp [stL]
theorem stL_one (x : List UInt8) : stL [x] = [.string ⟨x.toArray⟩] := rfl
/-- What a round leaves that turns the two variables and the row alone. -/
theorem sp_grow {w W W3 : World} {s : ByteArray} {G : List (Tk × Nat)} {k z : Nat} (hI : SpI w s G z k W) (hz : z = w.heap.size + 6) (hw0 : 0 < w.heap.size) {v' : Value} {O' : List (List UInt8)} {f' : Option Nat}
    (hb : Below w.heap.size W W3)
    (hsame : ∀ j, j < W.heap.size → j ≠ w.heap.size + 1 + 1 + 1 + 1 → j ≠ w.heap.size + 1 + 1 + 1 → (∀ c, W.heap[j]? = some (.cells c 9 (0, 0)) → j < w.heap.size + 6) → W3.heap[j]? = W.heap[j]?)
    (h5 : Boxed W3 (w.heap.size + 1 + 1 + 1 + 1) 3 (frV f')) (hl : Boxed W3 (w.heap.size + 1 + 1 + 1) 48 v') (hr : W3.ownsRow (w.heap.size + 6) 9 1 v' O'.length (stL O'))
    (hst : spf s.data.toList G (k + 1) = (O', f')) (hok : ∀ j, j < k + 1 → (gx G j).1.k ≠ 0) (Q : Act) :
    endL z (KpT (w.heap.size + 1 + 1 + 1 + 1 + 1)) (SpI w s G z) (SpX w G) k W .normal Q W3 := by
  have hzW := hI.z
  have low : ∀ j, j < w.heap.size + 6 → j ≠ w.heap.size + 1 + 1 + 1 + 1 → j ≠ w.heap.size + 1 + 1 + 1 → W3.heap[j]? = W.heap[j]? := fun j h1 h2 h3 => hsame j (by omega) h2 h3 (fun _ _ => h1)
  refine ⟨⟨hb.size, fun j o hj ho hc => ?_⟩, ⟨low _ (by omega) (by omega) (by omega), low _ (by omega) (by omega) (by omega), fun j c hj hc => ?_⟩,
    ⟨(low _ (by omega) (by omega) (by omega)).trans hI.r1, (low _ (by omega) (by omega) (by omega)).trans hI.r2, (low _ (by omega) (by omega) (by omega)).trans hI.r3, by rw [hst]; exact h5, (low _ (by omega) (by omega) (by omega)).trans hI.bA,
      ⟨v', hl, by rw [hst]; exact hr⟩, ⟨hb.os.trans hI.b.os, hb.tape.trans hI.b.tape, hb.output.trans hI.b.output, Nat.le_trans hI.b.size hb.size, fun j hj => (hb.block j hj).trans (hI.b.block j hj)⟩, Nat.le_trans hI.z hb.size, hok⟩⟩
  · refine (hsame j (Array.getElem?_eq_some_iff.1 ho).1 (by omega) (by omega) (fun c h => ?_)).trans ho
    rw [ho] at h; cases h; cases hc
  · obtain ⟨v, hv, _⟩ := hI.row
    refine (hsame j hj.lt (blk_ne hj (show Blk W _ _ _ from hI.r5) (by decide)) (blk_ne hj (show Blk W _ _ _ from hv) (by decide)) (fun d h => ?_)).trans hj
    rw [show W.heap[j]? = _ from hj] at h; simp at h
def spF (b : Nat) (s : ByteArray) (x : Tk × Nat) (u : Nat) : Act := { tmps := #[.string s, .pointer (some ⟨b, 0, none⟩), .pointer (some ⟨b + 1, 0, none⟩), .pointer (some ⟨b + 1 + 1, 0, none⟩), .pointer (some ⟨b + 1 + 1 + 1, 0, none⟩), .pointer (some ⟨b + 1 + 1 + 1 + 1, 0, none⟩), .pointer (some ⟨u, 0, none⟩), .int .i64 (x.2 : Int), .string s, .func (.func 38) #[] #[.pointer (some ⟨b + 1 + 1 + 1 + 1 + 1, 0, none⟩)], .agg #[.int .i64 (x.1.k : Int), .int .i64 (x.1.a : Int), .string ⟨x.1.t.toArray⟩], .int .i64 (x.2 : Int), undef, undef, undef, undef, undef, undef, undef, undef, undef, undef, undef, undef, undef, undef, undef, undef, undef, undef, undef, undef, undef, undef, undef, undef, undef, undef, undef, undef, undef, undef, undef, undef, undef, undef, undef], defers := [] }
set_option maxRecDepth 100000 in
set_option maxHeartbeats 4000000 in
theorem split_e (s : ByteArray) (hs : s.size ≤ 1048576) : SplitOk s := by
  intro w hE
  obtain ⟨G, hG⟩ : ∃ G, wklS s.data.toList = G := ⟨_, rfl⟩
  obtain ⟨i0, hi0, hi1, hi2, hi3⟩ := strInfo
  have HW := hide (fun V => walk_e V s)
  refine (callsIn_wide (n := 9)).1 ?_
  refine callsIn_of_wp_marks Tryd.func21 rfl trivial ?_ rfl
  simp only [Tryd.ntmps21, List.size_toArray, List.length_cons, List.length_nil, Nat.reduceAdd, Nat.reduceSub, Array.replicate_succ, Array.replicate_zero, List.push_toArray, List.append_toArray, List.nil_append, List.cons_append]
  gi_wp2_with (first
    | ((refine ⟨trivial, ?_⟩); gi_at_call 24; refine CallsIn.mono (callsIn_wide.2 (HW.out _)) ?_; rintro e' w1 ⟨rfl, rfl⟩))
  obtain ⟨W0, hW0⟩ : ∃ W0, W0 = ((((((w.alloc (.cells #[.string s] 9)).alloc (.cells #[.slice none 0 0] 48)).alloc (.cells #[.int .i64 0] 23)).alloc (.cells #[.slice none 0 0] 48)).alloc (.cells #[.int .i64 (-1)] 3)).alloc (.cells #[.string s] 9)) := ⟨_, rfl⟩
  have h0 : SpI w s G W0.heap.size 0 W0 ∧ W0.heap.size = w.heap.size + 6 := by
    have e1 : (w.alloc (.cells #[.string s] 9)).heap.size = w.heap.size + 1 := by simp
    have e2 : ((w.alloc (.cells #[.string s] 9)).alloc (.cells #[.slice none 0 0] 48)).heap.size = w.heap.size + 1 + 1 := by simp
    have e3 : (((w.alloc (.cells #[.string s] 9)).alloc (.cells #[.slice none 0 0] 48)).alloc (.cells #[.int .i64 0] 23)).heap.size = w.heap.size + 1 + 1 + 1 := by simp
    have e4 : ((((w.alloc (.cells #[.string s] 9)).alloc (.cells #[.slice none 0 0] 48)).alloc (.cells #[.int .i64 0] 23)).alloc (.cells #[.slice none 0 0] 48)).heap.size = w.heap.size + 1 + 1 + 1 + 1 := by simp
    have e5 : (((((w.alloc (.cells #[.string s] 9)).alloc (.cells #[.slice none 0 0] 48)).alloc (.cells #[.int .i64 0] 23)).alloc (.cells #[.slice none 0 0] 48)).alloc (.cells #[.int .i64 (-1)] 3)).heap.size = w.heap.size + 1 + 1 + 1 + 1 + 1 := by simp
    have k1 : Boxed W0 w.heap.size 9 (.string s) := by rw [hW0]; exact (((((Boxed.new w _ _).alloc _).alloc _).alloc _).alloc _).alloc _
    have k2 : Boxed W0 (w.heap.size + 1) 48 (.slice none 0 0) := by rw [hW0, ← e1]; exact ((((Boxed.new _ _ _).alloc _).alloc _).alloc _).alloc _
    have k3 : Boxed W0 (w.heap.size + 1 + 1) 23 (.int .i64 0) := by rw [hW0, ← e2]; exact (((Boxed.new _ _ _).alloc _).alloc _).alloc _
    have k4 : Boxed W0 (w.heap.size + 1 + 1 + 1) 48 (.slice none 0 0) := by rw [hW0, ← e3]; exact ((Boxed.new _ _ _).alloc _).alloc _
    have k5 : Boxed W0 (w.heap.size + 1 + 1 + 1 + 1) 3 (.int .i64 (-1)) := by rw [hW0, ← e4]; exact (Boxed.new _ _ _).alloc _
    have k6 : Boxed W0 (w.heap.size + 1 + 1 + 1 + 1 + 1) 9 (.string s) := by rw [hW0, ← e5]; exact Boxed.new _ _ _
    have hb : Below w.heap.size w W0 := by rw [hW0]; exact below_trans (below_trans (below_trans (below_trans (below_trans (below_alloc _ _) (below_alloc _ _)) (below_alloc _ _)) (below_alloc _ _)) (below_alloc _ _)) (below_alloc _ _)
    refine ⟨⟨k1, k2, k3, by rw [spf_zero]; exact k5, k6, ⟨_, k4, by rw [spf_zero]; exact World.ownsRow_nil _ _ _ _⟩, hb, Nat.le_refl _, fun j hj => absurd hj (by omega)⟩, by rw [hW0]; simp⟩
  rw [← hW0]
  clear hW0
  obtain ⟨h0, hz0⟩ := h0
  have hbA := h0.bA
  have hE0 := hE.below h0.b
  have hw0 : 0 < w.heap.size := by
    obtain ⟨m, hm⟩ := hE
    rcases Nat.eq_zero_or_pos w.heap.size with h | h
    · have : w.heap[0]? = none := by rw [Array.eq_empty_of_size_eq_zero h]; rfl
      rw [World.cell?_of_block (w := World.mk #[] w.tape w.drawn w.os w.output) (w' := w) (by rw [this]; simp)] at hm
      simp [World.cell?] at hm
    · exact h
  have hb0 := h0.b
  have hGl : G.length ≤ s.size := by
    have := wkl_len (s.data.toList.length + 1) (s.data.toList.drop (skp false s.data.toList)) (skp false s.data.toList)
    rw [show wkl (s.data.toList.length + 1) (s.data.toList.drop (skp false s.data.toList)) (skp false s.data.toList) = G from hG] at this
    simp at this; omega
  refine range_L (by omega) (gf := 38) (lb := #[.pointer (some ⟨w.heap.size + 1 + 1 + 1 + 1 + 1, 0, none⟩)]) rfl (enters_of Tryd.func38 (by kernel_rfl) rfl)
    (fun V hV _ => walk_L s (by omega) G hG 8 (w.heap.size + 1 + 1 + 1 + 1 + 1) (KpT (w.heap.size + 1 + 1 + 1 + 1 + 1)) (fun _ _ h => h) V (Blk.later hbA hV) (hE0.below hV))
    (fun h h' => kpT_trans h h')
    (fun W o o' ho hc => kpT_put (by omega) (by omega) ho hc) (fun _ => rfl)
    (SpI w s G W0.heap.size) (SpX w G)
    (SpI.own (by have := hb0.size; omega)) (SpX.own (by have := hb0.size; omega)) h0
    (fun k a' W => ∃ u, a' = spF w.heap.size s (gx G k) u ∧ Blk W u #[.int .i64 ((gx G k).1.k : Int), .int .i64 ((gx G k).1.a : Int), .string ⟨(gx G k).1.t.toArray⟩] 39)
    (fun a' k X Y row hs hg hr => by
      obtain ⟨u, h1, h2⟩ := hs
      refine ⟨u, h1, (hg.block u h2.lt fun e => ?_).trans h2⟩
      obtain ⟨o, ho, hc⟩ := (hr u e.symm).2
      rw [show X.heap[u]? = _ from h2] at ho; cases ho; cases hc) ?assign ?body ?done ?stop
  case assign =>
    intro lp k W Kk hk hI hKk
    have HKk := hide hKk
    have HI' := hide hI
    clear hKk hI
    simp only [encT, tgA]
    obtain ⟨gt, hgt⟩ : ∃ gt, G.getD k (⟨0, 0, []⟩, 0) = gt := ⟨_, rfl⟩
    have hgx : gx G k = gt := hgt
    rw [hgt]
    rw [hgx] at HKk
    clear hgt hgx
    gi_wp2
    have hbA : Below W.heap.size W (W.alloc (.cells #[.int .i64 (gt.1.k : Int), .int .i64 (gt.1.a : Int), .string ⟨gt.1.t.toArray⟩] 39)) := below_alloc W _
    have hz := HI'.out.z
    have hb1 := HI'.out.b.size
    refine HKk.out _ _ (KeepsFrom.of_grownBy (grown_of_below hbA) (fun j e => by cases e)) (kpT_below hbA HI'.out.bA.lt (by omega)) ((SpI.own (Nat.le_refl _)) _ _ _ none HI'.out (grown_of_below hbA) (fun r e => by cases e)) ⟨W.heap.size, rfl, Blk.new W _ _⟩
  case body =>
    rintro lp k a' W hlp hk hI ⟨u, rfl, hu⟩
    obtain ⟨gt, hgt⟩ : ∃ gt, gx G k = gt := ⟨_, rfl⟩
    rw [hgt] at hu ⊢
    have c0 := hu.cell 0
    have c1 := hu.cell 1
    have c2 := hu.cell 2
    have HU := hide hu
    have HI' := hide hI
    have Hgt := hide hgt
    have hb1 := hI.b.size
    clear hu hI hgt
    simp only [spF]
    by_cases hk0 : gt.1.k = 0
    · have ek : ((gt.1.k : Int) == 0) = true := by simp [hk0]
      have d2 := HI'.out.r2.cell
      have d3 := HI'.out.r3.cell
      have f2 := HI'.out.r2.frozen
      have f3 := HI'.out.r3.frozen
      gi_wp2
      have hI := HI'.out
      refine ⟨((KeepsOthers.setCell W _ _).trans (KeepsOthers.setCell _ _ _)).from _, ?_, by rw [Hgt.out]; exact hk0, ?_, ?_⟩
      · exact (Below.heap_setCell _ _ _ _ (by simp)).trans (hI.r2.set _)
      · exact Boxed.set _ ((Below.heap_setCell _ _ _ _ (by simp)).trans hI.r3)
      · exact (hI.b.setCell (show w.heap.size ≤ w.heap.size + 1 by omega) _).setCell (show w.heap.size ≤ w.heap.size + 1 + 1 by omega) _
    · have ek : ((gt.1.k : Int) == 0) = false := by simp [hk0]
      have hst := spf_succ s.data.toList G hk
      rw [Hgt.out] at hst
      have hhas := spf_has s.data.toList G k (by omega)
      have hbd := fun j (hj : j ≤ k) => wk_bound hG hk (by rw [Hgt.out]; exact hk0) hj
      rw [Hgt.out] at hbd
      have hb0' := hbd k (Nat.le_refl k)
      rw [Hgt.out] at hb0'
      obtain ⟨O, f, hp⟩ : ∃ O f, spf s.data.toList G k = (O, f) := ⟨_, _, rfl⟩
      have r5 := HI'.out.r5
      obtain ⟨v, hv, hrow⟩ := HI'.out.row
      rw [hp] at hst r5 hrow hhas
      simp only at hst r5 hrow hhas
      obtain ⟨p, cp, rfl⟩ : ∃ p cp, v = .slice p O.length cp := by
        rcases hrow.2 with ⟨rfl, h⟩ | ⟨g, cap, cur, rfl, _⟩
        · exact ⟨_, _, by rw [h]⟩
        · exact ⟨_, _, rfl⟩
      have HP := hide hp
      have HST := hide hst
      have HV := hide hv
      have HR := hide hrow
      have H5 := hide r5
      have HH := hide hhas
      have HBD := hide hbd
      have HB0 := hide hb0'
      have c5 := r5.cell
      have f5 := r5.frozen
      have hok : ∀ j, j < k + 1 → (gx G j).1.k ≠ 0 := fun j hj => by
        rcases Nat.lt_or_ge j k with h | h
        · exact HI'.out.ok j h
        · obtain rfl : j = k := by omega
          rw [Hgt.out]; exact hk0
      have HOK := hide hok
      clear hst r5 hv hrow hhas hbd hb0' hok hp
      by_cases hsg : gt.1.k = 6 ∧ gt.1.t = [59]
      · have e6 : ((gt.1.k : Int) == 6) = true := by simp [hsg.1]
        have e59 : gt.1.t = [59] := hsg.2
        obtain ⟨tk, te⟩ := gt
        obtain ⟨tk0, ta, tt⟩ := tk
        obtain ⟨h6, h59⟩ := hsg
        simp only at h6 h59
        subst h6 h59
        gi_wp2
        have hI := HI'.out
        have hg := grownBy_setCell' W (w.heap.size + 1 + 1 + 1 + 1) (.int .i64 (-1))
        have hbW : Below w.heap.size w (W.setCell ⟨w.heap.size + 1 + 1 + 1 + 1, 0, none⟩ (.int .i64 (-1))) := hI.b.setCell (show w.heap.size ≤ w.heap.size + 1 + 1 + 1 + 1 by omega) _
        refine ⟨(KeepsOthers.setCell W _ _).from _, ⟨?_, ?_, fun q c hq hc => ?_⟩, ⟨hI.r1.kept hg (by simp; omega), hI.r2.kept hg (by simp), hI.r3.kept hg (by simp), ?_, hI.bA.kept hg (by simp), ⟨_, HV.out.kept hg (by simp), ?_⟩, hbW, ?_, HOK.out⟩⟩
        · exact Below.heap_setCell _ _ _ _ (by simp)
        · exact Below.heap_setCell _ _ _ _ (by simp)
        · exact (Below.heap_setCell _ _ _ _ (show q ≠ w.heap.size + 1 + 1 + 1 + 1 from blk_ne hq (show Blk W _ _ _ from H5.out) (by decide))).trans hq
        · rw [HST.out, stp_sep ⟨rfl, rfl⟩]
          exact H5.out.set _
        · rw [HST.out, stp_sep ⟨rfl, rfl⟩]
          exact HR.out.kept hg (.inr (not_row_lt HR.out (by omega)).symm)
        · have h1 := hI.z
          have h2 := (KeepsOthers.setCell W ⟨w.heap.size + 1 + 1 + 1 + 1, 0, none⟩ (.int .i64 (-1))).size
          omega
      · cases f with
        | none =>
          have HSG := hide hsg
          have hs0 := HST.out
          rw [stp_new hsg rfl] at hs0
          have HS0 := hide hs0
          clear hs0
          simp only [frV] at c5
          have e1 : ((-1 : Int) == -1) = true := by decide
          by_cases h6 : gt.1.k = 6
          · have e6 : ((gt.1.k : Int) == 6) = true := by simp [h6]
            have hne : (gt.1.t == [59]) = false := beq_eq_false_iff_ne.2 (fun h => hsg ⟨h6, h⟩)
            gi_wp2
            obtain ⟨W1, hW1⟩ : ∃ W1, W1 = W.setCell ⟨w.heap.size + 1 + 1 + 1 + 1, 0, none⟩ (.int .i64 (gt.1.a : Int)) := ⟨_, rfl⟩
            have hg := grownBy_setCell' W (w.heap.size + 1 + 1 + 1 + 1) (.int .i64 (gt.1.a : Int))
            have hI := HI'.out
            have q1 : Boxed W1 w.heap.size 9 (.string s) := by rw [hW1]; exact hI.r1.kept hg (by simp; omega)
            have q4 : Boxed W1 (w.heap.size + 1 + 1 + 1) 48 (.slice p O.length cp) := by rw [hW1]; exact HV.out.kept hg (by simp)
            have q5 : Boxed W1 (w.heap.size + 1 + 1 + 1 + 1) 3 (.int .i64 (gt.1.a : Int)) := by rw [hW1]; exact H5.out.set _
            have d1 := q1.cell
            have d4 := q4.cell
            have d5 := q5.cell
            have f4 := q4.frozen
            rw [← hW1]
            clear c5 f5 c0 c1 c2
            have b1 : (gt.1.a : Int) ≤ (gt.2 : Int) := by have := HB0.out.1; omega
            have b2 : (gt.2 : Int) ≤ (s.size : Int) := by have := HB0.out.2; simp at this; omega
            have b3 : (0 : Int) ≤ (gt.1.a : Int) := by omega
            have hmix : Tryd.prog.follows .mixedOrders = true := by kernel_rfl
            have qr : W1.ownsRow (w.heap.size + 6) 9 1 (.slice p O.length cp) O.length (stL O) := by
              rw [hW1]; exact HR.out.kept hg (.inr (not_row_lt HR.out (by omega)).symm)
            obtain ⟨V1, hV1⟩ : ∃ V1, V1 = (W1.alloc (.cells #[.string (s.extract gt.1.a gt.2)] 9)).drew := ⟨_, rfl⟩
            have vr : V1.ownsRow (w.heap.size + 6) 9 1 (.slice p O.length cp) O.length (stL O) := by
              rw [hV1]; exact qr.alloc _
            obtain ⟨v', W2, hr, hown, hgr, -, -⟩ := run_append_own_at (P := Tryd.prog) (w := V1) (w.heap.size + 6) 48 48 9 i0 (.string ⟨#[]⟩) 1 16 Tryd.underlying48 hi0 hi1 hi2 hi3 (by decide) (by decide) _ O.length (stL O) vr
              ⟨W1.heap.size, 0, none⟩ 1 1 [.string (s.extract gt.1.a gt.2)] rfl (by rw [hV1]; exact World.news_of_block (heap_alloc_new W1 _)) (by simp [Value.oneCell']) (by have := HH.out.1; unfold maxLen; omega) (by have := HH.out.1; omega)
              (by have := hI.z; have h2 := hg.size; have h3 : V1.heap.size = W1.heap.size + 1 := by rw [hV1]; simp
                  rw [← hW1] at h2; omega)
            obtain ⟨g', cap', rfl⟩ := ownsRow_succ hown
            rw [hV1] at hr
            have HO := hide hown
            have HVR := hide vr
            have HG2 := hide hgr
            have HR1 := hide qr
            have Q1 := hide q1
            have Q4 := hide q4
            have Q5 := hide q5
            clear hown hgr qr vr q1 q4 q5 hI hg h0 hbA hE0 hb0 hE hG hi0 hi1 hi2 hi3 HBD HSG
            have Q1' := Q1.out.alloc (.cells #[.string (s.extract gt.1.a gt.2)] 9)
            have Q4' := Q4.out.alloc (.cells #[.string (s.extract gt.1.a gt.2)] 9)
            have Q5' := Q5.out.alloc (.cells #[.string (s.extract gt.1.a gt.2)] 9)
            have d4' := Q4'.cell
            have p1 : Boxed W2 w.heap.size 9 (.string s) := (show Boxed V1 _ _ _ by rw [hV1]; exact Q1').kept HG2.out (not_row_lt HVR.out (by omega))
            have p4 : Boxed W2 (w.heap.size + 1 + 1 + 1) 48 (.slice p O.length cp) := (show Boxed V1 _ _ _ by rw [hV1]; exact Q4').kept HG2.out (not_row_lt HVR.out (by omega))
            have p5 : Boxed W2 (w.heap.size + 1 + 1 + 1 + 1) 3 (.int .i64 (gt.1.a : Int)) := (show Boxed V1 _ _ _ by rw [hV1]; exact Q5').kept HG2.out (not_row_lt HVR.out (by omega))
            have P1 := hide p1
            have P4 := hide p4
            have P5 := hide p5
            have HQ1 := hide Q1'
            have HQ5 := hide Q5'
            have pc4 := p4.cell
            have pf4 := p4.frozen
            clear p1 p4 p5 Q1' Q4' Q5'
            have HR2 := hide hr
            clear hr
            have HFin : Hid (∀ a', endL (w.heap.size + 6) (KpT (w.heap.size + 1 + 1 + 1 + 1 + 1)) (SpI w s G (w.heap.size + 6)) (SpX w G) k W .normal a' (W2.setCell ⟨w.heap.size + 1 + 1 + 1, 0, none⟩ (.slice (some ⟨g', 0, none⟩) (O.length + 1) cap'))) := fun a' => by
              have hI := HI'.out
              rw [hz0] at hI
              have eV : V1.heap.size = W1.heap.size + 1 := by rw [hV1]; simp
              have eW : W1.heap.size = W.heap.size := by rw [hW1]; simp
              have ne : ∀ j, (∀ c, W.heap[j]? = some (.cells c 9 (0, 0)) → j < w.heap.size + 6) → some j ≠ (Value.slice p O.length cp).ownBlock := fun j hc => by
                rcases HR.out.2 with ⟨e, _⟩ | ⟨g, cap, cur, e, hbg, hg, _⟩
                · rw [e]; simp [Value.ownBlock]
                · rw [e]
                  intro h
                  obtain rfl : j = g := by simpa [Value.ownBlock] using h
                  have := hc cur hg
                  omega
              have hzW := hI.z
              have e2 : ∀ j, j ≠ w.heap.size + 1 + 1 + 1 + 1 → W1.heap[j]? = W.heap[j]? := fun j h => by rw [hW1]; exact Below.heap_setCell _ _ _ _ h
              have e1 : ∀ j, j < W1.heap.size → V1.heap[j]? = W1.heap[j]? := fun j h => by rw [hV1]; exact Below.heap_alloc _ _ _ h
              have b1 : Below w.heap.size W W1 := by rw [hW1]; exact (Below.refl _ _).setCell (show w.heap.size ≤ w.heap.size + 1 + 1 + 1 + 1 by omega) _
              have b2 : Below w.heap.size W W2 := ⟨HG2.out.os.trans (by rw [hV1]; exact b1.os), HG2.out.tape.trans (by rw [hV1]; exact b1.tape), HG2.out.output.trans (by rw [hV1]; exact b1.output), by have := HG2.out.size; omega,
                fun j hj => (HG2.out.block j (by omega) (ne j (fun _ _ => by omega))).trans ((e1 j (by omega)).trans (e2 j (by omega)))⟩
              refine sp_grow hI rfl hw0 (b2.setCell (show w.heap.size ≤ w.heap.size + 1 + 1 + 1 by omega) _) (fun j hj h4 h3 hc => ?_) (Boxed.other P5.out (by simp) _) (P4.out.set _) ?_ HS0.out HOK.out a'
              · exact (Below.heap_setCell _ _ _ _ h3).trans ((HG2.out.block j (by omega) (ne j hc)).trans ((e1 j (by omega)).trans (e2 j h4)))
              · have h := HO.out.kept (grownBy_setCell' W2 (w.heap.size + 1 + 1 + 1) (.slice (some ⟨g', 0, none⟩) (O.length + 1) cap')) (.inr (not_row_lt HO.out (by omega)).symm)
                rw [List.length_append, stL_append, stL_one, ← piece]
                exact h
            clear hW1 hV1
            refine region_in (S := fun V => V.cell? ⟨w.heap.size, 0, none⟩ = some (.string s) ∧ V.cell? ⟨w.heap.size + 1 + 1 + 1 + 1, 0, none⟩ = some (.int .i64 (gt.1.a : Int))) (by kernel_rfl) (by kernel_rfl) not_lets ⟨d1, d5⟩ (fun hS => ?_)
            refine wpAnyH_take (i := 1) (v := .string s) rfl (by kernel_rfl) (by kernel_rfl) (by kernel_rfl) (fun _ _ _ h => h) (Or.inl ⟨by rfl, fun V hV => ?_⟩) hS ?_
            · obtain ⟨z1, z3⟩ := hV; go_simp
            simp only [Act.put, List.setIfInBounds_toArray]
            refine wpAnyH_take (i := 2) (v := .int .i64 (gt.1.a : Int)) rfl (by kernel_rfl) (by kernel_rfl) (by kernel_rfl) (fun _ _ _ h => h) (Or.inl ⟨by rfl, fun V hV => ?_⟩) hS ?_
            · obtain ⟨z1, z3⟩ := hV; go_simp
            simp only [Act.put]
            refine wpAnyH_take (i := 3) (v := .int .i64 (gt.2 : Int)) rfl (by kernel_rfl) (by kernel_rfl) (by kernel_rfl) (fun _ _ _ h => h) (Or.inl ⟨by rfl, fun V hV => ?_⟩) hS ?_
            · go_simp
            simp only [Act.put]
            refine wpAnyH_take (i := 4) (v := .string (s.extract gt.1.a gt.2)) rfl (by kernel_rfl) (by kernel_rfl) (by kernel_rfl) (fun _ _ _ h => h) (Or.inl ⟨by rfl, fun V hV => ?_⟩) hS ?_
            · go_simp
            simp only [Act.put]
            refine wpAnyH_ready (rs := [0, 5]) (by kernel_rfl) (by simp) ?_
            refine AllReadyH.cons rfl (fun K hK => ?way1) (AllReadyH.cons rfl (fun K hK => ?way2) AllReadyH.nil)
            case way1 =>
              go_simp
              refine hK.out _ _ hS (fun _ => ?_)
              clear hK K
              refine wpAnyH_ready (rs := [5]) (by kernel_rfl) (by simp) ?_
              refine AllReadyH.cons rfl (fun K hK => ?_) AllReadyH.nil
              go_simp
              refine hK.out _ _ ⟨HQ1.out.cell, HQ5.out.cell⟩ (fun _ => ?_)
              clear hK K
              refine wpAnyH_ready (rs := [6]) (by kernel_rfl) (by simp) ?_
              refine AllReadyH.cons rfl (fun K hK => ?_) AllReadyH.nil
              rw [if_pos (by rfl)]
              refine wp_appU _ _ 48 rfl rfl rfl HR2.out ?_
              refine hK.out _ _ ⟨P1.out.cell, P5.out.cell⟩ (fun _ => ?_)
              clear hK K
              simp only [Act.put, List.setIfInBounds_toArray]
              refine wpAnyH_ready (rs := [7]) (by kernel_rfl) (by simp) ?_
              refine AllReadyH.cons rfl (fun K hK => ?_) AllReadyH.nil
              go_simp
              refine hK.out _ _ ⟨(Boxed.other P1.out (by simp; omega) _).cell, (Boxed.other P5.out (by simp) _).cell⟩ (fun _ => ?_)
              clear hK K
              refine wpAnyH_done (by kernel_rfl) ?_ _
              exact HFin.out { tmps := #[], defers := [] }
            case way2 =>
              go_simp
              refine hK.out _ _ ⟨HQ1.out.cell, HQ5.out.cell⟩ (fun _ => ?_)
              clear hK K
              refine wpAnyH_ready (rs := [0]) (by kernel_rfl) (by simp) ?_
              refine AllReadyH.cons rfl (fun K hK => ?_) AllReadyH.nil
              go_simp
              refine hK.out _ _ ⟨HQ1.out.cell, HQ5.out.cell⟩ (fun _ => ?_)
              clear hK K
              refine wpAnyH_ready (rs := [6]) (by kernel_rfl) (by simp) ?_
              refine AllReadyH.cons rfl (fun K hK => ?_) AllReadyH.nil
              rw [if_pos (by rfl)]
              refine wp_appU _ _ 48 rfl rfl rfl HR2.out ?_
              refine hK.out _ _ ⟨P1.out.cell, P5.out.cell⟩ (fun _ => ?_)
              clear hK K
              simp only [Act.put, List.setIfInBounds_toArray]
              refine wpAnyH_ready (rs := [7]) (by kernel_rfl) (by simp) ?_
              refine AllReadyH.cons rfl (fun K hK => ?_) AllReadyH.nil
              go_simp
              refine hK.out _ _ ⟨(Boxed.other P1.out (by simp; omega) _).cell, (Boxed.other P5.out (by simp) _).cell⟩ (fun _ => ?_)
              clear hK K
              refine wpAnyH_done (by kernel_rfl) ?_ _
              exact HFin.out { tmps := #[], defers := [] }
          · have e6 : ((gt.1.k : Int) == 6) = false := by simp; omega
            gi_wp2
            obtain ⟨W1, hW1⟩ : ∃ W1, W1 = W.setCell ⟨w.heap.size + 1 + 1 + 1 + 1, 0, none⟩ (.int .i64 (gt.1.a : Int)) := ⟨_, rfl⟩
            have hg := grownBy_setCell' W (w.heap.size + 1 + 1 + 1 + 1) (.int .i64 (gt.1.a : Int))
            have hI := HI'.out
            have q1 : Boxed W1 w.heap.size 9 (.string s) := by rw [hW1]; exact hI.r1.kept hg (by simp; omega)
            have q4 : Boxed W1 (w.heap.size + 1 + 1 + 1) 48 (.slice p O.length cp) := by rw [hW1]; exact HV.out.kept hg (by simp)
            have q5 : Boxed W1 (w.heap.size + 1 + 1 + 1 + 1) 3 (.int .i64 (gt.1.a : Int)) := by rw [hW1]; exact H5.out.set _
            have d1 := q1.cell
            have d4 := q4.cell
            have d5 := q5.cell
            have f4 := q4.frozen
            rw [← hW1]
            clear c5 f5 c0 c1 c2
            have b1 : (gt.1.a : Int) ≤ (gt.2 : Int) := by have := HB0.out.1; omega
            have b2 : (gt.2 : Int) ≤ (s.size : Int) := by have := HB0.out.2; simp at this; omega
            have b3 : (0 : Int) ≤ (gt.1.a : Int) := by omega
            have hmix : Tryd.prog.follows .mixedOrders = true := by kernel_rfl
            have qr : W1.ownsRow (w.heap.size + 6) 9 1 (.slice p O.length cp) O.length (stL O) := by
              rw [hW1]; exact HR.out.kept hg (.inr (not_row_lt HR.out (by omega)).symm)
            obtain ⟨V1, hV1⟩ : ∃ V1, V1 = (W1.alloc (.cells #[.string (s.extract gt.1.a gt.2)] 9)).drew := ⟨_, rfl⟩
            have vr : V1.ownsRow (w.heap.size + 6) 9 1 (.slice p O.length cp) O.length (stL O) := by
              rw [hV1]; exact qr.alloc _
            obtain ⟨v', W2, hr, hown, hgr, -, -⟩ := run_append_own_at (P := Tryd.prog) (w := V1) (w.heap.size + 6) 48 48 9 i0 (.string ⟨#[]⟩) 1 16 Tryd.underlying48 hi0 hi1 hi2 hi3 (by decide) (by decide) _ O.length (stL O) vr
              ⟨W1.heap.size, 0, none⟩ 1 1 [.string (s.extract gt.1.a gt.2)] rfl (by rw [hV1]; exact World.news_of_block (heap_alloc_new W1 _)) (by simp [Value.oneCell']) (by have := HH.out.1; unfold maxLen; omega) (by have := HH.out.1; omega)
              (by have := hI.z; have h2 := hg.size; have h3 : V1.heap.size = W1.heap.size + 1 := by rw [hV1]; simp
                  rw [← hW1] at h2; omega)
            obtain ⟨g', cap', rfl⟩ := ownsRow_succ hown
            rw [hV1] at hr
            have HO := hide hown
            have HVR := hide vr
            have HG2 := hide hgr
            have HR1 := hide qr
            have Q1 := hide q1
            have Q4 := hide q4
            have Q5 := hide q5
            clear hown hgr qr vr q1 q4 q5 hI hg h0 hbA hE0 hb0 hE hG hi0 hi1 hi2 hi3 HBD HSG
            have Q1' := Q1.out.alloc (.cells #[.string (s.extract gt.1.a gt.2)] 9)
            have Q4' := Q4.out.alloc (.cells #[.string (s.extract gt.1.a gt.2)] 9)
            have Q5' := Q5.out.alloc (.cells #[.string (s.extract gt.1.a gt.2)] 9)
            have d4' := Q4'.cell
            have p1 : Boxed W2 w.heap.size 9 (.string s) := (show Boxed V1 _ _ _ by rw [hV1]; exact Q1').kept HG2.out (not_row_lt HVR.out (by omega))
            have p4 : Boxed W2 (w.heap.size + 1 + 1 + 1) 48 (.slice p O.length cp) := (show Boxed V1 _ _ _ by rw [hV1]; exact Q4').kept HG2.out (not_row_lt HVR.out (by omega))
            have p5 : Boxed W2 (w.heap.size + 1 + 1 + 1 + 1) 3 (.int .i64 (gt.1.a : Int)) := (show Boxed V1 _ _ _ by rw [hV1]; exact Q5').kept HG2.out (not_row_lt HVR.out (by omega))
            have P1 := hide p1
            have P4 := hide p4
            have P5 := hide p5
            have HQ1 := hide Q1'
            have HQ5 := hide Q5'
            have pc4 := p4.cell
            have pf4 := p4.frozen
            clear p1 p4 p5 Q1' Q4' Q5'
            have HR2 := hide hr
            clear hr
            have HFin : Hid (∀ a', endL (w.heap.size + 6) (KpT (w.heap.size + 1 + 1 + 1 + 1 + 1)) (SpI w s G (w.heap.size + 6)) (SpX w G) k W .normal a' (W2.setCell ⟨w.heap.size + 1 + 1 + 1, 0, none⟩ (.slice (some ⟨g', 0, none⟩) (O.length + 1) cap'))) := fun a' => by
              have hI := HI'.out
              rw [hz0] at hI
              have eV : V1.heap.size = W1.heap.size + 1 := by rw [hV1]; simp
              have eW : W1.heap.size = W.heap.size := by rw [hW1]; simp
              have ne : ∀ j, (∀ c, W.heap[j]? = some (.cells c 9 (0, 0)) → j < w.heap.size + 6) → some j ≠ (Value.slice p O.length cp).ownBlock := fun j hc => by
                rcases HR.out.2 with ⟨e, _⟩ | ⟨g, cap, cur, e, hbg, hg, _⟩
                · rw [e]; simp [Value.ownBlock]
                · rw [e]
                  intro h
                  obtain rfl : j = g := by simpa [Value.ownBlock] using h
                  have := hc cur hg
                  omega
              have hzW := hI.z
              have e2 : ∀ j, j ≠ w.heap.size + 1 + 1 + 1 + 1 → W1.heap[j]? = W.heap[j]? := fun j h => by rw [hW1]; exact Below.heap_setCell _ _ _ _ h
              have e1 : ∀ j, j < W1.heap.size → V1.heap[j]? = W1.heap[j]? := fun j h => by rw [hV1]; exact Below.heap_alloc _ _ _ h
              have b1 : Below w.heap.size W W1 := by rw [hW1]; exact (Below.refl _ _).setCell (show w.heap.size ≤ w.heap.size + 1 + 1 + 1 + 1 by omega) _
              have b2 : Below w.heap.size W W2 := ⟨HG2.out.os.trans (by rw [hV1]; exact b1.os), HG2.out.tape.trans (by rw [hV1]; exact b1.tape), HG2.out.output.trans (by rw [hV1]; exact b1.output), by have := HG2.out.size; omega,
                fun j hj => (HG2.out.block j (by omega) (ne j (fun _ _ => by omega))).trans ((e1 j (by omega)).trans (e2 j (by omega)))⟩
              refine sp_grow hI rfl hw0 (b2.setCell (show w.heap.size ≤ w.heap.size + 1 + 1 + 1 by omega) _) (fun j hj h4 h3 hc => ?_) (Boxed.other P5.out (by simp) _) (P4.out.set _) ?_ HS0.out HOK.out a'
              · exact (Below.heap_setCell _ _ _ _ h3).trans ((HG2.out.block j (by omega) (ne j hc)).trans ((e1 j (by omega)).trans (e2 j h4)))
              · have h := HO.out.kept (grownBy_setCell' W2 (w.heap.size + 1 + 1 + 1) (.slice (some ⟨g', 0, none⟩) (O.length + 1) cap')) (.inr (not_row_lt HO.out (by omega)).symm)
                rw [List.length_append, stL_append, stL_one, ← piece]
                exact h
            clear hW1 hV1
            refine region_in (S := fun V => V.cell? ⟨w.heap.size, 0, none⟩ = some (.string s) ∧ V.cell? ⟨w.heap.size + 1 + 1 + 1 + 1, 0, none⟩ = some (.int .i64 (gt.1.a : Int))) (by kernel_rfl) (by kernel_rfl) not_lets ⟨d1, d5⟩ (fun hS => ?_)
            refine wpAnyH_take (i := 1) (v := .string s) rfl (by kernel_rfl) (by kernel_rfl) (by kernel_rfl) (fun _ _ _ h => h) (Or.inl ⟨by rfl, fun V hV => ?_⟩) hS ?_
            · obtain ⟨z1, z3⟩ := hV; go_simp
            simp only [Act.put, List.setIfInBounds_toArray]
            refine wpAnyH_take (i := 2) (v := .int .i64 (gt.1.a : Int)) rfl (by kernel_rfl) (by kernel_rfl) (by kernel_rfl) (fun _ _ _ h => h) (Or.inl ⟨by rfl, fun V hV => ?_⟩) hS ?_
            · obtain ⟨z1, z3⟩ := hV; go_simp
            simp only [Act.put]
            refine wpAnyH_take (i := 3) (v := .int .i64 (gt.2 : Int)) rfl (by kernel_rfl) (by kernel_rfl) (by kernel_rfl) (fun _ _ _ h => h) (Or.inl ⟨by rfl, fun V hV => ?_⟩) hS ?_
            · go_simp
            simp only [Act.put]
            refine wpAnyH_take (i := 4) (v := .string (s.extract gt.1.a gt.2)) rfl (by kernel_rfl) (by kernel_rfl) (by kernel_rfl) (fun _ _ _ h => h) (Or.inl ⟨by rfl, fun V hV => ?_⟩) hS ?_
            · go_simp
            simp only [Act.put]
            refine wpAnyH_ready (rs := [0, 5]) (by kernel_rfl) (by simp) ?_
            refine AllReadyH.cons rfl (fun K hK => ?way1) (AllReadyH.cons rfl (fun K hK => ?way2) AllReadyH.nil)
            case way1 =>
              go_simp
              refine hK.out _ _ hS (fun _ => ?_)
              clear hK K
              refine wpAnyH_ready (rs := [5]) (by kernel_rfl) (by simp) ?_
              refine AllReadyH.cons rfl (fun K hK => ?_) AllReadyH.nil
              go_simp
              refine hK.out _ _ ⟨HQ1.out.cell, HQ5.out.cell⟩ (fun _ => ?_)
              clear hK K
              refine wpAnyH_ready (rs := [6]) (by kernel_rfl) (by simp) ?_
              refine AllReadyH.cons rfl (fun K hK => ?_) AllReadyH.nil
              rw [if_pos (by rfl)]
              refine wp_appU _ _ 48 rfl rfl rfl HR2.out ?_
              refine hK.out _ _ ⟨P1.out.cell, P5.out.cell⟩ (fun _ => ?_)
              clear hK K
              simp only [Act.put, List.setIfInBounds_toArray]
              refine wpAnyH_ready (rs := [7]) (by kernel_rfl) (by simp) ?_
              refine AllReadyH.cons rfl (fun K hK => ?_) AllReadyH.nil
              go_simp
              refine hK.out _ _ ⟨(Boxed.other P1.out (by simp; omega) _).cell, (Boxed.other P5.out (by simp) _).cell⟩ (fun _ => ?_)
              clear hK K
              refine wpAnyH_done (by kernel_rfl) ?_ _
              exact HFin.out { tmps := #[], defers := [] }
            case way2 =>
              go_simp
              refine hK.out _ _ ⟨HQ1.out.cell, HQ5.out.cell⟩ (fun _ => ?_)
              clear hK K
              refine wpAnyH_ready (rs := [0]) (by kernel_rfl) (by simp) ?_
              refine AllReadyH.cons rfl (fun K hK => ?_) AllReadyH.nil
              go_simp
              refine hK.out _ _ ⟨HQ1.out.cell, HQ5.out.cell⟩ (fun _ => ?_)
              clear hK K
              refine wpAnyH_ready (rs := [6]) (by kernel_rfl) (by simp) ?_
              refine AllReadyH.cons rfl (fun K hK => ?_) AllReadyH.nil
              rw [if_pos (by rfl)]
              refine wp_appU _ _ 48 rfl rfl rfl HR2.out ?_
              refine hK.out _ _ ⟨P1.out.cell, P5.out.cell⟩ (fun _ => ?_)
              clear hK K
              simp only [Act.put, List.setIfInBounds_toArray]
              refine wpAnyH_ready (rs := [7]) (by kernel_rfl) (by simp) ?_
              refine AllReadyH.cons rfl (fun K hK => ?_) AllReadyH.nil
              go_simp
              refine hK.out _ _ ⟨(Boxed.other P1.out (by simp; omega) _).cell, (Boxed.other P5.out (by simp) _).cell⟩ (fun _ => ?_)
              clear hK K
              refine wpAnyH_done (by kernel_rfl) ?_ _
              exact HFin.out { tmps := #[], defers := [] }
        | some a =>
          have hs0 := HST.out
          rw [stp_on hsg rfl] at hs0
          have HS0 := hide hs0
          have HSG := hide hsg
          clear hs0
          simp only [frV] at c5
          obtain ⟨ho1, j0, hj0, hja⟩ := HH.out.2 a rfl
          have hba := HBD.out j0 (by omega)
          rw [hja] at hba
          have hba1 := hba.1
          have hba2 := hba.2
          simp at hba2
          obtain ⟨m, hm⟩ : ∃ m, O.length = m + 1 := ⟨O.length - 1, by omega⟩
          obtain ⟨g, rfl, hgb⟩ : ∃ g, p = some ⟨g, 0, none⟩ ∧ w.heap.size + 6 ≤ g := by
            rcases HR.out.2 with ⟨e, h0⟩ | ⟨g, cap, cur, e, hb, _⟩
            · omega
            · exact ⟨g, by simp at e; exact e.1, hb⟩
          have hgc : ∃ cur, W.heap[g]? = some (.cells cur 9 (0, 0)) := by
            rcases HR.out.2 with ⟨e, h0⟩ | ⟨g', cap, cur, e, hb, h1, _⟩
            · omega
            · simp at e
              obtain ⟨rfl, _⟩ := e
              exact ⟨cur, h1⟩
          have e1 : ((a : Int) == -1) = false := by simp
          have d1 := HI'.out.r1.cell
          have d4 := HV.out.cell
          have hw : IntKind.i64.wrap ((O.length : Int) - 1) = (m : Int) := by rw [IntKind.wrap_i64]; have := HH.out.1; omega
          have b1 : (a : Int) ≤ (gt.2 : Int) := by omega
          have b2 : (gt.2 : Int) ≤ (s.size : Int) := by omega
          have b3 : (0 : Int) ≤ (a : Int) := by omega
          have b4 : (m : Int) < (O.length : Int) := by omega
          have b5 : (0 : Int) ≤ (m : Int) := by omega
          have c9 : ∃ u, W.cell? ⟨g, m, none⟩ = some u := by
            rw [HR.out.cellAt m (by omega), List.getElem?_eq_getElem (by rw [stL_length]; omega)]
            exact ⟨_, rfl⟩
          obtain ⟨u9, c9⟩ := c9
          have f9 := HR.out.frozenAt m
          have hlow : ∀ j, j ≠ g → ((W.setCell ⟨g, m, none⟩ (.string (s.extract a gt.2))).drew).heap[j]? = W.heap[j]? := fun j h => Below.heap_setCell _ _ _ _ h
          have HSn : Hid (((W.setCell ⟨g, m, none⟩ (.string (s.extract a gt.2))).drew).cell? ⟨w.heap.size + 1 + 1 + 1, 0, none⟩ = some (.slice (some ⟨g, 0, none⟩) O.length cp) ∧ ((W.setCell ⟨g, m, none⟩ (.string (s.extract a gt.2))).drew).cell? ⟨w.heap.size, 0, none⟩ = some (.string s) ∧ ((W.setCell ⟨g, m, none⟩ (.string (s.extract a gt.2))).drew).cell? ⟨w.heap.size + 1 + 1 + 1 + 1, 0, none⟩ = some (.int .i64 (a : Int))) :=
            ⟨(World.cell?_of_block (hlow _ (by simp; omega))).trans d4, (World.cell?_of_block (hlow _ (by simp; omega))).trans d1, (World.cell?_of_block (hlow _ (by simp; omega))).trans c5⟩
          have HFin : Hid (∀ a', endL (w.heap.size + 6) (KpT (w.heap.size + 1 + 1 + 1 + 1 + 1)) (SpI w s G (w.heap.size + 6)) (SpX w G) k W .normal a' ((W.setCell ⟨g, m, none⟩ (.string (s.extract a gt.2))).drew)) := fun a' => by
            have hI := HI'.out
            rw [hz0] at hI
            obtain ⟨cur, hcur⟩ := hgc
            refine sp_grow hI rfl hw0 (((Below.refl _ _).setCell (show w.heap.size ≤ g by omega) _).drew) (fun j hj h4 h3 hc => hlow j (fun e => ?_)) ((hlow _ (by omega)).trans H5.out) ((hlow _ (by omega)).trans HV.out) ?_ HS0.out HOK.out a'
            · subst e
              have := hc cur hcur
              omega
            · have h := (HR.out.stored m (.string (s.extract a gt.2))).1
              obtain ⟨l1, l2⟩ := stL_last hm ((s.data.toList.take gt.2).drop a)
              rw [l2, ← l1, ← piece]
              exact h
          clear hm hgc hlow h0 hbA hE0 hb0 hE hG hi0 hi1 hi2 hi3 HBD hsg
          by_cases h6 : gt.1.k = 6
          · have e6 : ((gt.1.k : Int) == 6) = true := by simp [h6]
            have hne : (gt.1.t == [59]) = false := beq_eq_false_iff_ne.2 (fun h => HSG.out ⟨h6, h⟩)
            gi_wp2
            refine region_in (S := fun V => V.cell? ⟨w.heap.size + 1 + 1 + 1, 0, none⟩ = some (.slice (some ⟨g, 0, none⟩) O.length cp) ∧ V.cell? ⟨w.heap.size, 0, none⟩ = some (.string s) ∧ V.cell? ⟨w.heap.size + 1 + 1 + 1 + 1, 0, none⟩ = some (.int .i64 (a : Int))) (by kernel_rfl) (by kernel_rfl) not_lets ⟨d4, d1, c5⟩ (fun hS => ?_)
            refine wpAnyH_take (i := 0) (v := .slice (some ⟨g, 0, none⟩) O.length cp) rfl (by kernel_rfl) (by kernel_rfl) (by kernel_rfl) (fun _ _ _ h => h) (Or.inl ⟨by rfl, fun V hV => ?_⟩) hS ?_
            · obtain ⟨z1, z2, z3⟩ := hV; go_simp
            simp only [Act.put, List.setIfInBounds_toArray]
            refine wpAnyH_take (i := 1) (v := .slice (some ⟨g, 0, none⟩) O.length cp) rfl (by kernel_rfl) (by kernel_rfl) (by kernel_rfl) (fun _ _ _ h => h) (Or.inl ⟨by rfl, fun V hV => ?_⟩) hS ?_
            · obtain ⟨z1, z2, z3⟩ := hV; go_simp
            simp only [Act.put]
            refine wpAnyH_take (i := 2) (v := .int .i64 (O.length : Int)) rfl (by kernel_rfl) (by kernel_rfl) (by kernel_rfl) (fun _ _ _ h => h) (Or.inl ⟨by rfl, fun V hV => ?_⟩) hS ?_
            · go_simp
            simp only [Act.put]
            refine wpAnyH_take (i := 3) (v := .int .i64 (m : Int)) rfl (by kernel_rfl) (by kernel_rfl) (by kernel_rfl) (fun _ _ _ h => h) (Or.inl ⟨by rfl, fun V hV => ?_⟩) hS ?_
            · go_simp
            simp only [Act.put]
            refine wpAnyH_take (i := 4) (v := .string s) rfl (by kernel_rfl) (by kernel_rfl) (by kernel_rfl) (fun _ _ _ h => h) (Or.inl ⟨by rfl, fun V hV => ?_⟩) hS ?_
            · obtain ⟨z1, z2, z3⟩ := hV; go_simp
            simp only [Act.put]
            refine wpAnyH_take (i := 5) (v := .int .i64 (a : Int)) rfl (by kernel_rfl) (by kernel_rfl) (by kernel_rfl) (fun _ _ _ h => h) (Or.inl ⟨by rfl, fun V hV => ?_⟩) hS ?_
            · obtain ⟨z1, z2, z3⟩ := hV; go_simp
            simp only [Act.put]
            refine wpAnyH_take (i := 6) (v := .int .i64 (gt.2 : Int)) rfl (by kernel_rfl) (by kernel_rfl) (by kernel_rfl) (fun _ _ _ h => h) (Or.inl ⟨by rfl, fun V hV => ?_⟩) hS ?_
            · go_simp
            simp only [Act.put]
            refine wpAnyH_take (i := 7) (v := .string (s.extract a gt.2)) rfl (by kernel_rfl) (by kernel_rfl) (by kernel_rfl) (fun _ _ _ h => h) (Or.inl ⟨by rfl, fun V hV => ?_⟩) hS ?_
            · go_simp
            simp only [Act.put]
            refine wpAnyH_take (i := 8) (v := .pointer (some ⟨g, m, none⟩)) rfl (by kernel_rfl) (by kernel_rfl) (by kernel_rfl) (fun _ _ _ h => h) (Or.inl ⟨by rfl, fun V hV => ?_⟩) hS ?_
            · go_simp
            simp only [Act.put]
            refine wpAnyH_ready (rs := [9]) (by kernel_rfl) (by simp) ?_
            refine AllReadyH.cons rfl (fun K hK => ?_) AllReadyH.nil
            go_simp
            refine hK.out _ _ HSn.out (fun _ => ?_)
            clear hK K
            refine wpAnyH_done (by kernel_rfl) ?_ _
            exact HFin.out { tmps := #[], defers := [] }
          · have e6 : ((gt.1.k : Int) == 6) = false := by simp; omega
            gi_wp2
            refine region_in (S := fun V => V.cell? ⟨w.heap.size + 1 + 1 + 1, 0, none⟩ = some (.slice (some ⟨g, 0, none⟩) O.length cp) ∧ V.cell? ⟨w.heap.size, 0, none⟩ = some (.string s) ∧ V.cell? ⟨w.heap.size + 1 + 1 + 1 + 1, 0, none⟩ = some (.int .i64 (a : Int))) (by kernel_rfl) (by kernel_rfl) not_lets ⟨d4, d1, c5⟩ (fun hS => ?_)
            refine wpAnyH_take (i := 0) (v := .slice (some ⟨g, 0, none⟩) O.length cp) rfl (by kernel_rfl) (by kernel_rfl) (by kernel_rfl) (fun _ _ _ h => h) (Or.inl ⟨by rfl, fun V hV => ?_⟩) hS ?_
            · obtain ⟨z1, z2, z3⟩ := hV; go_simp
            simp only [Act.put, List.setIfInBounds_toArray]
            refine wpAnyH_take (i := 1) (v := .slice (some ⟨g, 0, none⟩) O.length cp) rfl (by kernel_rfl) (by kernel_rfl) (by kernel_rfl) (fun _ _ _ h => h) (Or.inl ⟨by rfl, fun V hV => ?_⟩) hS ?_
            · obtain ⟨z1, z2, z3⟩ := hV; go_simp
            simp only [Act.put]
            refine wpAnyH_take (i := 2) (v := .int .i64 (O.length : Int)) rfl (by kernel_rfl) (by kernel_rfl) (by kernel_rfl) (fun _ _ _ h => h) (Or.inl ⟨by rfl, fun V hV => ?_⟩) hS ?_
            · go_simp
            simp only [Act.put]
            refine wpAnyH_take (i := 3) (v := .int .i64 (m : Int)) rfl (by kernel_rfl) (by kernel_rfl) (by kernel_rfl) (fun _ _ _ h => h) (Or.inl ⟨by rfl, fun V hV => ?_⟩) hS ?_
            · go_simp
            simp only [Act.put]
            refine wpAnyH_take (i := 4) (v := .string s) rfl (by kernel_rfl) (by kernel_rfl) (by kernel_rfl) (fun _ _ _ h => h) (Or.inl ⟨by rfl, fun V hV => ?_⟩) hS ?_
            · obtain ⟨z1, z2, z3⟩ := hV; go_simp
            simp only [Act.put]
            refine wpAnyH_take (i := 5) (v := .int .i64 (a : Int)) rfl (by kernel_rfl) (by kernel_rfl) (by kernel_rfl) (fun _ _ _ h => h) (Or.inl ⟨by rfl, fun V hV => ?_⟩) hS ?_
            · obtain ⟨z1, z2, z3⟩ := hV; go_simp
            simp only [Act.put]
            refine wpAnyH_take (i := 6) (v := .int .i64 (gt.2 : Int)) rfl (by kernel_rfl) (by kernel_rfl) (by kernel_rfl) (fun _ _ _ h => h) (Or.inl ⟨by rfl, fun V hV => ?_⟩) hS ?_
            · go_simp
            simp only [Act.put]
            refine wpAnyH_take (i := 7) (v := .string (s.extract a gt.2)) rfl (by kernel_rfl) (by kernel_rfl) (by kernel_rfl) (fun _ _ _ h => h) (Or.inl ⟨by rfl, fun V hV => ?_⟩) hS ?_
            · go_simp
            simp only [Act.put]
            refine wpAnyH_take (i := 8) (v := .pointer (some ⟨g, m, none⟩)) rfl (by kernel_rfl) (by kernel_rfl) (by kernel_rfl) (fun _ _ _ h => h) (Or.inl ⟨by rfl, fun V hV => ?_⟩) hS ?_
            · go_simp
            simp only [Act.put]
            refine wpAnyH_ready (rs := [9]) (by kernel_rfl) (by simp) ?_
            refine AllReadyH.cons rfl (fun K hK => ?_) AllReadyH.nil
            go_simp
            refine hK.out _ _ HSn.out (fun _ => ?_)
            clear hK K
            refine wpAnyH_done (by kernel_rfl) ?_ _
            exact HFin.out { tmps := #[], defers := [] }
  case done =>
    rintro D W hD hI hK0
    obtain ⟨v, hv, hrow⟩ := hI.row
    obtain ⟨O, f, hp⟩ : ∃ O f, spf s.data.toList G G.length = (O, f) := ⟨_, _, rfl⟩
    have hsp := split_good hG hI.ok
    rw [hp] at hrow hsp
    simp only at hrow hsp
    obtain ⟨p, cp, rfl⟩ : ∃ p cp, v = .slice p O.length cp := by
      rcases hrow.2 with ⟨rfl, h⟩ | ⟨g, cap, cur, rfl, _⟩
      · exact ⟨_, _, by rw [h]⟩
      · exact ⟨_, _, rfl⟩
    have HK := hide hK0
    have HI' := hide hI
    have HV := hide hv
    have HR := hide hrow
    have HSP := hide hsp
    have hc := hv.cell
    have d2 := hI.r2.cell
    have d3 := hI.r3.cell
    have f2 := hI.r2.frozen
    have f3 := hI.r3.frozen
    clear hI hv hrow hK0 hsp hp
    gi_wp2
    have hI := HI'.out
    have hD0 : w.heap.size < D := by have := hI.b.size; omega
    have k2 : Boxed ((W.setCell ⟨w.heap.size + 1, 0, none⟩ (.slice p O.length cp)).setCell ⟨w.heap.size + 1 + 1, 0, none⟩ (.int .i64 0)) (w.heap.size + 1) 48 (.slice p O.length cp) := (Below.heap_setCell _ _ _ _ (by simp)).trans (hI.r2.set _)
    have k3 : Boxed ((W.setCell ⟨w.heap.size + 1, 0, none⟩ (.slice p O.length cp)).setCell ⟨w.heap.size + 1 + 1, 0, none⟩ (.int .i64 0)) (w.heap.size + 1 + 1) 23 (.int .i64 0) := Boxed.set _ ((Below.heap_setCell _ _ _ _ (by simp)).trans hI.r3)
    have kD : ((W.setCell ⟨w.heap.size + 1, 0, none⟩ (.slice p O.length cp)).setCell ⟨w.heap.size + 1 + 1, 0, none⟩ (.int .i64 0)).heap[D]? = some (.deferred (some [])) := (KeepsOthers.setCell _ _ _).same _ _ ((KeepsOthers.setCell _ _ _).same _ _ HK.out rfl) rfl
    have kb : Below w.heap.size w ((W.setCell ⟨w.heap.size + 1, 0, none⟩ (.slice p O.length cp)).setCell ⟨w.heap.size + 1 + 1, 0, none⟩ (.int .i64 0)) := (hI.b.setCell (show w.heap.size ≤ w.heap.size + 1 by omega) _).setCell (show w.heap.size ≤ w.heap.size + 1 + 1 by omega) _
    have kr : ((W.setCell ⟨w.heap.size + 1, 0, none⟩ (.slice p O.length cp)).setCell ⟨w.heap.size + 1 + 1, 0, none⟩ (.int .i64 0)).ownsRow (w.heap.size + 6) 9 1 (.slice p O.length cp) O.length (stL O) := by
      have q1 := HR.out.kept (grownBy_setCell' W (w.heap.size + 1) (.slice p O.length cp)) (.inr (not_row_lt HR.out (by omega)).symm)
      exact q1.kept (grownBy_setCell' _ (w.heap.size + 1 + 1) (.int .i64 0)) (.inr (not_row_lt q1 (by omega)).symm)
    generalize (W.setCell ⟨w.heap.size + 1, 0, none⟩ (.slice p O.length cp)).setCell ⟨w.heap.size + 1 + 1, 0, none⟩ (.int .i64 0) = V at *
    refine sp_leave kD k2 k3 (by rfl) (by rfl) ⟨.slice p O.length cp, ?_, ?_, kb.trans (belowK_b (w := w) (Nat.le_refl _) V D _ _ (by omega) kD rfl rfl)⟩
    · rw [HSP.out]
    · have := ownsRow_putObj kr (.deferred none) kD rfl
      rw [HSP.out]
      exact stAt_own this
  case stop =>
    rintro D k W hD hk hx hK0
    have hsp := split_wrong hG hk hx.at_
    have hD0 : w.heap.size < D := by have := hx.b.size; omega
    refine sp_leave hK0 hx.r2 hx.r3 (by rfl) (by rfl) ⟨.slice none 0 0, ?_, ?_, hx.b.trans (belowK_b (w := w) (Nat.le_refl _) W D _ _ (by omega) hK0 rfl rfl)⟩
    · rw [hsp]
    · rw [hsp]; exact ⟨_, _, rfl, fun h => absurd h (by simp)⟩
end Go.Proofs.YtkooijhdjjdigaaDoor
