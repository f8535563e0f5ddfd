/- The program's All as a function that gives a text's tokens, one behind the other. -/
import Derived.Test.YtkooijhdjjdigaaDoorCMc
import Derived.Test.YtkooijhdjjdigaaDoorCMe
namespace Go.Proofs.YtkooijhdjjdigaaDoor
open Go.ChangeShapes Go.WideShapes Go.ChangeAt Go.RowKit Go.Shelf
set_option linter.unusedVariables false
attribute [local go_sem] Oper.semAt_some

/-- What a round may not turn: what walk wants, and all blocks from C on. -/
def KpC (A C : Nat) (X Y : World) : Prop := KpT A X Y ∧ X.heap.size ≤ Y.heap.size ∧ ∀ j, C ≤ j → j < X.heap.size → Y.heap[j]? = X.heap[j]?
theorem kpC_trans {A C : Nat} {X Y Z : World} (h : KpC A C X Y) (k : KpC A C Y Z) : KpC A C X Z :=
  ⟨kpT_trans h.1 k.1, Nat.le_trans h.2.1 k.2.1, fun j hj hx => (k.2.2 j hj (by have := h.2.1; omega)).trans (h.2.2 j hj hx)⟩
theorem StableL.mono {B B' : Nat} {J : Nat → World → Prop} (h : StableL B J) (hB : B ≤ B') : StableL B' J := fun k W W' row hj hg hr => h k W W' row hj hg (fun r e => ⟨Nat.le_trans hB (hr r e).1, (hr r e).2⟩)
theorem round_any {n m l l' f : Nat} {P : Program} {tmps : Array Value} {ac bd : Code} {w : World} {R : Ending → World → Prop} (h : RoundIn Fence.wide n P l' f tmps ac bd w R) : RoundIn (Fence.wide.inRound l) m P l' f tmps ac bd w R :=
  ⟨trivial, fun c cs _ => h.2 c cs (room_wide _)⟩
/-- The token at a place, as All gives it. -/
def itA (G : List (Tk × Nat)) (k : Nat) : Array Value := #[.agg #[.int .i64 ((gx G k).1.k : Int), .int .i64 ((gx G k).1.a : Int), .string ⟨(gx G k).1.t.toArray⟩]]
/-- What All's loop holds between two rounds. -/
structure AlI (b lp : Nat) (s : ByteArray) (G : List (Tk × Nat)) (J : Nat → World → Prop) (k : Nat) (W : World) : Prop where
  bY : Boxed W b 61 (.func (.yield lp) #[] #[])
  bA : Boxed W (b + 1) 9 (.string s)
  j : J k W
  z : b + 2 ≤ W.heap.size
  ok : ∀ j, j < k → (gx G j).1.k ≠ 0
theorem AlI.own {b lp B : Nat} {s : ByteArray} {G : List (Tk × Nat)} {J : Nat → World → Prop} (hJ : StableL B J) : StableL B (AlI b lp s G J) := by
  intro k X Y row h hg hr
  have hr2 : ∀ r, row = some r → ∃ o : Obj, X.heap[r]? = some o ∧ o.isCells = false := fun r e => (hr r e).2
  exact ⟨boxed_own h.bY hg hr2, boxed_own h.bA hg hr2, hJ k X Y row h.j hg hr, Nat.le_trans h.z hg.size, h.ok⟩
def AlX (G : List (Tk × Nat)) (J Jx : Nat → World → Prop) (k : Nat) (W : World) : Prop := (gx G k).1.k = 0 ∧ J k W ∧ (∀ j, j < k → (gx G j).1.k ≠ 0) ∨ (gx G k).1.k ≠ 0 ∧ Jx k W
theorem AlX.own {B : Nat} {G : List (Tk × Nat)} {J Jx : Nat → World → Prop} (hJ : StableL B J) (hJx : StableL B Jx) : StableL B (AlX G J Jx) := fun k X Y row h hg hr => h.imp (fun h => ⟨h.1, hJ k X Y row h.2.1 hg hr, h.2.2⟩) (fun h => ⟨h.1, hJx k X Y row h.2 hg hr⟩)
theorem wk_all {l : List UInt8} {G : List (Tk × Nat)} (hG : wklS l = G) (h : ∀ k, k < G.length → (gx G k).1.k ≠ 0) : (toksS l).1.length = G.length := by
  have hS : (toksS l).2.1.length = (toksS l).1.length := (toksS_rise l).len
  have hw := wkS l
  rw [hG] at hw
  have h1 : (toksS l).1.length ≤ G.length := by rw [hw]; simp [hS]
  rcases Nat.lt_or_ge (toksS l).1.length G.length with h2 | h2
  · have := wk_at hG h2 (h _ h2)
    omega
  · omega
theorem wk_bad {l : List UInt8} {G : List (Tk × Nat)} (hG : wklS l = G) {k : Nat} (hk : k < G.length) (h : (gx G k).1.k = 0) (hp : ∀ j, j < k → (gx G j).1.k ≠ 0) : (toksS l).1.length = k := by
  rcases Nat.lt_trichotomy (toksS l).1.length k with h1 | h1 | h1
  · have := wk_at hG (by omega) (hp _ h1)
    omega
  · exact h1
  · have h2 := (wk_get hG h1).1
    have := toks_kind _ _ _ _ (List.mem_of_getElem? (l := (toksS l).1) h2)
    omega
theorem al_leaveN {W : World} {D : Nat} {tmps : Array Value} (hD : W.heap[D]? = some (.deferred (some []))) {R : Ending → World → Prop} (hR : ∀ v, R (.returned v) (W.putObj D (.deferred none))) :
    bodyPostM Fence.wide 9 Tryd.prog Tryd.f28 R Exit.normal { tmps := tmps, defers := [{ target := .collected D, args := #[] }] } W := by
  refine ⟨by simp, .inl ⟨D, _, rfl, run_takeDeferred hD, ?_⟩⟩
  exact ⟨_, results_none rfl _ _ _, hR _⟩
def alF (b A lp : Nat) (s : ByteArray) (x : Tk × Nat) (u : Nat) : Act := { tmps := #[.func (.yield lp) #[] #[], .pointer (some ⟨A, 0, none⟩), .pointer (some ⟨b, 0, none⟩), .pointer (some ⟨u, 0, none⟩), .string s, .int .i64 (s.size : Int), .bool false, .string s, .func (.func 38) #[] #[.pointer (some ⟨b + 1, 0, none⟩)], .agg #[.int .i64 (x.1.k : Int), .int .i64 (x.1.a : Int), .string ⟨x.1.t.toArray⟩], .int .i64 (x.2 : Int), undef, undef, undef, undef, undef, undef, undef, undef, undef], defers := [] }
theorem al_leave {W : World} {D : Nat} {tmps : Array Value} (hD : W.heap[D]? = some (.deferred (some []))) {R : Ending → World → Prop} (hR : ∀ v, R (.returned v) (W.putObj D (.deferred none))) :
    bodyPostM Fence.wide 9 Tryd.prog Tryd.f28 R Exit.ret { tmps := tmps, defers := [{ target := .collected D, args := #[] }] } W := by
  refine ⟨by simp, .inl ⟨D, _, rfl, run_takeDeferred hD, ?_⟩⟩
  exact ⟨_, results_none rfl _ _ _, hR _⟩
set_option maxRecDepth 100000 in
set_option maxHeartbeats 4000000 in
theorem all_L (s : ByteArray) (hs : s.size ≤ 2000) (G : List (Tk × Nat)) (hG : wklS s.data.toList = G) (n A : Nat) (Kp : World → World → Prop) (w : World) (hKp : ∀ X Y, Kp X Y → KpC A w.heap.size X Y) (hA : Blk w A #[.string s] 9) (hE : Env w) :
    SeqM n 28 #[.pointer (some ⟨A, 0, none⟩)] (toksS s.data.toList).1.length (itA G) Kp w := by
  intro lp J Jx W hW hJ hJx hY h0
  have hw := hW.size
  have hA' := hA.later hW
  have hE' := hE.below hW
  have c0 := hA'.cell 0
  have cA := (Boxed.alloc (show Boxed W A 9 (.string s) from hA') (.cells #[.func (.yield lp) #[] #[]] 61)).cell
  have l1 : ¬ (2000 : Int) < (s.size : Int) := by omega
  have HWk := hide (fun V => walk_e V s)
  refine callsIn_wide.2 ((callsIn_wide (n := 9)).1 ?_)
  refine callsIn_of_wp_marks Tryd.func28 rfl trivial ?_ rfl
  simp only [Tryd.ntmps28, List.size_toArray, List.length_cons, List.length_nil, Nat.reduceAdd, Nat.reduceSub, Array.replicate_succ, Array.replicate_zero, List.push_toArray, List.append_toArray, List.nil_append, List.cons_append]
  have HJ := hide hJ
  have HJx := hide hJx
  have HY := hide hY
  have H0 := hide h0
  have HA := hide hA'
  have HE := hide hE'
  have HKp := hide hKp
  clear hJ hJx hY h0 hA' hE' hKp hA hE
  gi_wp2_with (first
    | ((refine ⟨trivial, ?_⟩); gi_at_call 24; refine CallsIn.mono (callsIn_wide.2 (HWk.out _)) ?_; rintro e' w1 ⟨rfl, rfl⟩))
  obtain ⟨b, hb⟩ : ∃ b, W.heap.size = b := ⟨_, rfl⟩
  rw [hb] at HJ HJx hw ⊢
  obtain ⟨W0, hW0⟩ : ∃ W0, W0 = (W.alloc (.cells #[.func (.yield lp) #[] #[]] 61)).alloc (.cells #[.string s] 9) := ⟨_, rfl⟩
  have e0 : (W.alloc (.cells #[.func (.yield lp) #[] #[]] 61)).heap.size = b + 1 := by simp [hb]
  have hz0 : W0.heap.size = b + 2 := by rw [hW0]; simp [hb]
  have hb0 : Below W.heap.size W W0 := by rw [hW0]; exact below_trans (below_alloc _ _) (below_alloc _ _)
  have hi : AlI b lp s G J 0 W0 := ⟨by rw [hW0, ← hb]; exact (Boxed.new W _ _).alloc _, by rw [hW0, ← e0]; exact Boxed.new _ _ _, by rw [hW0]; exact HJ.out.alloc _ (HJ.out.alloc _ H0.out), by omega, fun j hj => absurd hj (by omega)⟩
  have hE0 := HE.out.below hb0
  rw [← hW0]
  clear hW0
  have hw0 : 0 < W.heap.size := by
    have h := HA.out.lt
    omega
  have hJ2 := HJ.out.mono (show b ≤ W0.heap.size by omega)
  have hJx2 := HJx.out.mono (show b ≤ W0.heap.size by omega)
  refine range_L (by omega) (gf := 38) (lb := #[.pointer (some ⟨b + 1, 0, none⟩)]) rfl (enters_of Tryd.func38 (by kernel_rfl) rfl)
    (fun V hV _ => walk_L s (by omega) G hG 8 (b + 1) (KpT (b + 1)) (fun _ _ h => h) V (Blk.later hi.bA hV) (hE0.below hV))
    (fun h h' => kpT_trans h h')
    (fun X o o' ho hc => kpT_put (by omega) (by omega) ho hc) (fun _ => rfl)
    (AlI b lp s G J) (AlX G J Jx) (AlI.own hJ2) (AlX.own hJ2 hJx2) hi
    (fun k a' X => ∃ u, a' = alF b A lp s (gx G k) u ∧ Blk X u #[.int .i64 ((gx G k).1.k : Int), .int .i64 ((gx G k).1.a : Int), .string ⟨(gx G k).1.t.toArray⟩] 39)
    (fun a' k X Y row hs hg hr => by
      obtain ⟨u, h1, h2⟩ := hs
      refine ⟨u, h1, (hg.block u h2.lt fun e => ?_).trans h2⟩
      obtain ⟨o, ho, hc⟩ := (hr u e.symm).2
      rw [show X.heap[u]? = _ from h2] at ho; cases ho; cases hc) ?assign ?body ?done ?stop
  case assign =>
    intro l2 k X Kk hk hI hKk
    have HKk := hide hKk
    have HI' := hide hI
    clear hKk hI
    simp only [encT, tgA]
    obtain ⟨gt, hgt⟩ : ∃ gt, G.getD k (⟨0, 0, []⟩, 0) = gt := ⟨_, rfl⟩
    have hgx : gx G k = gt := hgt
    rw [hgt]
    rw [hgx] at HKk
    clear hgt hgx
    gi_wp2
    have hbA : Below X.heap.size X (X.alloc (.cells #[.int .i64 (gt.1.k : Int), .int .i64 (gt.1.a : Int), .string ⟨gt.1.t.toArray⟩] 39)) := below_alloc X _
    have hz := HI'.out.z
    refine HKk.out _ _ (KeepsFrom.of_grownBy (grown_of_below hbA) (fun j e => by cases e)) (kpT_below hbA HI'.out.bA.lt (by omega)) ((AlI.own hJ2) _ _ _ none HI'.out (grown_of_below hbA) (fun r e => by cases e)) ⟨X.heap.size, rfl, Blk.new X _ _⟩
  case body =>
    rintro l2 k a' X hlp hk hI ⟨u, rfl, hu⟩
    obtain ⟨gt, hgt⟩ : ∃ gt, gx G k = gt := ⟨_, rfl⟩
    rw [hgt] at hu ⊢
    have c0 := hu.cell 0
    have c1 := hu.cell 1
    have c2 := hu.cell 2
    have cY := hI.bY.cell
    have HU := hide hu
    have HI' := hide hI
    have Hgt := hide hgt
    clear hu hI hgt
    simp only [alF]
    by_cases hk0 : gt.1.k = 0
    · have ek : ((gt.1.k : Int) == 0) = true := by simp [hk0]
      gi_wp2
      refine ⟨(fun f h => by cases h), ?_⟩
      gi_wp2
      exact ⟨KeepsFrom.refl _ _, .inl ⟨by rw [Hgt.out]; exact hk0, HI'.out.j, HI'.out.ok⟩⟩
    · have ek : ((gt.1.k : Int) == 0) = false := by simp [hk0]
      have hkN : k < (toksS s.data.toList).1.length := wk_at hG hk (by rw [Hgt.out]; exact hk0)
      obtain ⟨fn, tm, ac, bd, hy, hR⟩ := HY.out k X HI'.out.j hkN
      unfold itA at hy
      rw [Hgt.out] at hy
      have HRd := hide hR
      clear hR
      gi_wp2
      refine RoundIn.mono (round_any HRd.out) ?_
      rintro e W3 (⟨rfl, hJ3, hK3⟩ | ⟨rfl, hx3, hK3⟩)
      · have hC := HKp.out _ _ hK3
        have HJ3 := hide hJ3
        clear hJ3 hK3
        have HC := hide hC
        clear hC
        have hz := HI'.out.z
        have same : ∀ j, b ≤ j → j < X.heap.size → W3.heap[j]? = X.heap[j]? := fun j h1 h2 => HC.out.2.2 j (by omega) h2
        have h0 : W3.heap[0]? = X.heap[0]? := HC.out.1.2.1
        have hblk : ∀ (i : Nat) (c : Array Value), Blk X i c 39 → c.size = 3 → Blk W3 i c 39 := HC.out.1.2.2
        have hsz : X.heap.size ≤ W3.heap.size := HC.out.2.1
        have HS := hide same
        have HBl := hide hblk
        clear same hblk
        gi_wp2
        have hI := HI'.out
        refine ⟨⟨hsz, fun j o hj ho _ => (HS.out j (by omega) (Array.getElem?_eq_some_iff.1 ho).1).trans ho⟩, ⟨HS.out _ (by omega) (by omega), h0, HBl.out⟩,
          ⟨(HS.out _ (by omega) (by omega)).trans hI.bY, (HS.out _ (by omega) (by omega)).trans hI.bA, HJ3.out, by omega, fun j hj => ?_⟩⟩
        rcases Nat.lt_or_ge j k with h | h
        · exact hI.ok j h
        · obtain rfl : j = k := by omega
          rw [Hgt.out]; exact hk0
      · have HC := hide (HKp.out _ _ hK3)
        have HX := hide hx3
        clear hx3 hK3
        have hz := HI'.out.z
        gi_wp2
        exact ⟨⟨HC.out.2.1, fun j o hj ho _ => (HC.out.2.2 j (by omega) (Array.getElem?_eq_some_iff.1 ho).1).trans ho⟩, .inr ⟨by rw [Hgt.out]; exact hk0, HX.out⟩⟩
  case done =>
    rintro D X hD hI hK0
    refine al_leaveN hK0 (fun v => ⟨⟨v, rfl⟩, .inl ?_⟩)
    rw [wk_all hG hI.ok]
    exact HJ.out.put _ hI.j (by omega) hK0 rfl
  case stop =>
    rintro D k X hD hk hx hK0
    refine al_leave hK0 (fun v => ⟨⟨v, rfl⟩, ?_⟩)
    rcases hx with ⟨h1, h2, h3⟩ | ⟨h1, h2⟩
    · rw [wk_bad hG hk h1 h3]
      exact .inl (HJ.out.put _ h2 (by omega) hK0 rfl)
    · exact .inr ⟨k, wk_at hG hk h1, HJx.out.put _ h2 (by omega) hK0 rfl⟩
end Go.Proofs.YtkooijhdjjdigaaDoor
