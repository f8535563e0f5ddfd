/- The program's own Scan. -/
import Derived.Test.YtkooijhdjjdigaaDoorCP
import Derived.Test.YtkooijhdjjdigaaDoorKS
import Derived.RangeFuncNested
import Derived.RegionIn
namespace Go.Proofs.YtkooijhdjjdigaaDoor
open Go.ChangeShapes Go.WideShapes Go.ChangeAt Go.RowKit Go.Shelf
set_option linter.unusedVariables false
attribute [local go_sem] Oper.semAt_some

theorem wkl_len : ∀ (f : Nat) (l : List UInt8) (a : Nat), (wkl f l a).length ≤ l.length
  | 0, l, a => by simp [wkl]
  | f + 1, [], a => by rw [wkl_nil]; simp
  | f + 1, c :: l, a => by
    cases h : tok (c :: l) with
    | none => rw [wkl_bad (by simp) h]; simp
    | some x =>
      obtain ⟨n, k⟩ := x
      have hn := (tok_le _ _ _ h).1
      rw [wkl_ok (by simp) h]
      have := wkl_len f ((c :: l).drop (n + skp false ((c :: l).drop n))) (a + n + skp false ((c :: l).drop n))
      rw [List.length_drop] at this
      simp only [List.length_cons] at this ⊢
      omega
theorem wkl_few (l : List UInt8) {G : List (Tk × Nat)} (hG : wklS l = G) (h : l.length ≤ 4000000000) : G.length ≤ 4000000000 := by
  rw [← hG]
  have := wkl_len (l.length + 1) (l.drop (skp false l)) (skp false l)
  rw [List.length_drop] at this
  show (wkl _ _ _).length ≤ _
  omega
/-- The item at a place. -/
def gx (G : List (Tk × Nat)) (i : Nat) : Tk × Nat := G.getD i (⟨0, 0, []⟩, 0)
/-- What Scan's loop holds between two rounds. -/
structure ScI (w : World) (A : Nat) (s : ByteArray) (G : List (Tk × Nat)) (z : Nat) (pre : List (Fin G.length)) (W : World) : Prop where
  r2 : Boxed W w.heap.size 22 (.slice none 0 0)
  r3 : Boxed W (w.heap.size + 1) 3 (.int .i64 0)
  r4 : Boxed W (w.heap.size + 1 + 1) 23 (.int .i64 0)
  bA : Boxed W A 9 (.string s)
  row : ∃ v, Boxed W (w.heap.size + 1 + 1 + 1) 22 v ∧ W.ownsRow w.heap.size 39 3 v pre.length (tkL (pre.map fun x => (gx G x.val).1)) ∧ (v = .slice none 0 0 ∨ 1 ≤ pre.length)
  b : Below w.heap.size w W
  z : z ≤ W.heap.size
  ok : ∀ x ∈ pre, (gx G x.val).1.k ≠ 0
theorem boxed_own {X Y : World} {B t : Nat} {v : Value} {row : Option Nat} (h : Boxed X B t v) (hg : X.grownBy Y row) (hr : ∀ r, row = some r → ∃ o : Obj, X.heap[r]? = some o ∧ o.isCells = false) : Boxed Y B t v := by
  refine h.kept hg fun e => ?_
  obtain ⟨o, ho, hc⟩ := hr B e.symm
  rw [show X.heap[B]? = _ from h] at ho; cases ho; cases hc
theorem ScI.own {w : World} {A : Nat} {s : ByteArray} {G : List (Tk × Nat)} {z B : Nat} (hB : w.heap.size ≤ B) : OwnFrom B (ScI w A s G z) := by
  intro pre X Y row h hg hr
  have hr2 : ∀ r, row = some r → ∃ o : Obj, X.heap[r]? = some o ∧ o.isCells = false := fun r e => (hr r e).2
  refine ⟨boxed_own h.r2 hg hr2, boxed_own h.r3 hg hr2, boxed_own h.r4 hg hr2, boxed_own h.bA hg hr2, ?_, ?_, Nat.le_trans h.z hg.size, h.ok⟩
  · exact holdsRow_own w.heap.size _ _ _ 3 (fun pre : List (Fin G.length) => pre.length) (fun pre => tkL (pre.map fun x => (gx G x.val).1)) (fun pre v => v = .slice none 0 0 ∨ 1 ≤ pre.length) pre X Y row h.row hg hr2
  · exact ownFrom_below (β := Unit) (w₀ := w) (Nat.le_refl _) hB () X Y row h.b hg hr
/-- What Scan's results hold where a token is none. -/
structure ScX (w : World) (G : List (Tk × Nat)) (pre : List (Fin G.length)) (W : World) : Prop where
  r2 : Boxed W w.heap.size 22 (.slice none 0 0)
  at_ : ∃ x ∈ pre, (gx G x.val).1.k = 0 ∧ Boxed W (w.heap.size + 1) 3 (.int .i64 ((gx G x.val).1.a : Int))
  r4 : Boxed W (w.heap.size + 1 + 1) 23 (.int .i64 250)
  b : Below w.heap.size w W
theorem ScX.own {w : World} {G : List (Tk × Nat)} {B : Nat} (hB : w.heap.size ≤ B) : OwnFrom B (ScX w G) := by
  intro pre X Y row h hg hr
  have hr2 : ∀ r, row = some r → ∃ o : Obj, X.heap[r]? = some o ∧ o.isCells = false := fun r e => (hr r e).2
  obtain ⟨x, h1, h2, h3⟩ := h.at_
  exact ⟨boxed_own h.r2 hg hr2, ⟨x, h1, h2, boxed_own h3 hg hr2⟩, boxed_own h.r4 hg hr2, ownFrom_below (β := Unit) (w₀ := w) (Nat.le_refl _) hB () X Y row h.b hg hr⟩
theorem kpT_below {A : Nat} {X Y : World} (h : Below X.heap.size X Y) (hA : A < X.heap.size) (h0 : 0 < X.heap.size) : KpT A X Y :=
  ⟨h.block A hA, h.block 0 h0, fun i c hi _ => Blk.later hi h⟩
theorem kpT_put {A l : Nat} {W : World} {o o' : Obj} (hA : A < l) (h0 : 0 < l) (ho : W.heap[l]? = some o) (hc : o.isCells = false) : KpT A W (W.putObj l o') := by
  have hg := grownBy_putObj' W l o'
  have hl := (Array.getElem?_eq_some_iff.1 ho).1
  refine ⟨hg.block A (by omega) (fun e => by simp at e; omega), hg.block 0 (by omega) (fun e => by simp at e; omega), fun i c hi _ => (hg.block i hi.lt (fun e => ?_)).trans hi⟩
  obtain rfl : i = l := by simpa using e
  rw [show W.heap[i]? = _ from hi] at ho; cases ho; cases hc
theorem kpT_trans {A : Nat} {X Y Z : World} (h : KpT A X Y) (k : KpT A Y Z) : KpT A X Z :=
  ⟨k.1.trans h.1, k.2.1.trans h.2.1, fun i c hi hc => k.2.2 i c (h.2.2 i c hi hc) hc⟩
theorem box_app {W w1 : World} {n0 n b5 B t : Nat} {v v' u : Value} {xs : List Value} {tmp : Obj} (h : Boxed W B t u) (ht : t ≠ 39) (hne : B ≠ b5) (hrow : W.ownsRow n0 39 3 v n xs) (hg : (W.alloc tmp).grownBy w1 v.ownBlock) : Boxed (w1.setCell ⟨b5, 0, none⟩ v') B t u :=
  (Below.heap_setCell _ _ _ _ hne).trans ((h.alloc tmp).kept hg (h.not_row ht hrow))
theorem row_set {W : World} {n0 n b t : Nat} {v u : Value} {xs : List Value} (h : W.ownsRow n0 39 3 v n xs) (hb : Boxed W b t u) (ht : t ≠ 39) (x : Value) : (W.setCell ⟨b, 0, none⟩ x).ownsRow n0 39 3 v n xs :=
  h.kept (grownBy_setCell' W b x) (.inr (hb.not_row ht h).symm)
theorem toks_kind : ∀ (f : Nat) (l : List UInt8) (a : Nat) (x : Tk), x ∈ (toks f l a).1 → 1 ≤ x.k
  | 0, l, a, x, h => by simp [toks] at h
  | f + 1, [], a, x, h => by rw [toks_nil] at h; simp at h
  | f + 1, c :: l, a, x, h => by
    cases ht : tok (c :: l) with
    | none => rw [toks_bad ht] at h; simp at h
    | some y =>
      obtain ⟨n, k⟩ := y
      rw [toks_ok ht] at h
      rcases List.mem_cons.1 h with rfl | h
      · exact (tok_kind ht).1
      · exact toks_kind f _ _ x h
/-- Where all items are tokens, Scan's answer is these. -/
theorem wkl_good {s : ByteArray} (hs : s.size ≤ 2000) {G : List (Tk × Nat)} (hG : wklS s.data.toList = G) (h : ∀ x : Fin G.length, x ∈ List.finRange G.length → (gx G x.val).1.k ≠ 0) : scanR s.data.toList = ((toksS s.data.toList).1, 0, 0) ∧ ((List.finRange G.length).map fun x => (gx G x.val).1) = (toksS s.data.toList).1 := by
  have hS : (toksS s.data.toList).2.1.length = (toksS s.data.toList).1.length := (toksS_rise s.data.toList).len
  have hw : wklS s.data.toList = (toksS s.data.toList).1.zip (toksS s.data.toList).2.1 ++ (if 0 ≤ (toksS s.data.toList).2.2 then [(⟨0, (toksS s.data.toList).2.2.toNat, []⟩, (toksS s.data.toList).2.2.toNat)] else []) := wkl_toks _ _ _
  have hb : ¬ 0 ≤ (toksS s.data.toList).2.2 := by
    intro hb
    rw [if_pos hb] at hw
    have hl : G.length = (toksS s.data.toList).1.length + 1 := by rw [← hG, hw]; simp [hS]
    have := h ⟨G.length - 1, by omega⟩ (List.mem_finRange _)
    apply this
    show (gx G (G.length - 1)).1.k = 0
    rw [hl, Nat.add_sub_cancel]
    unfold gx
    rw [← hG, hw, List.getD_eq_getElem?_getD, List.getElem?_append_right (by simp [hS])]
    simp [hS]
  rw [if_neg hb, List.append_nil] at hw
  refine ⟨?_, ?_⟩
  · unfold scanR
    rw [if_neg (by simp; omega), if_neg hb]
  · have e : ((List.finRange G.length).map fun x => (gx G x.val).1) = G.map (·.1) := by
      refine List.ext_getElem (by simp) fun i h1 h2 => ?_
      simp only [List.length_map, List.length_finRange] at h1
      simp [gx]
    rw [e, ← hG, hw, List.map_fst_zip (by omega)]
/-- Where one is none, it is told where. -/
theorem wkl_wrong {s : ByteArray} (hs : s.size ≤ 2000) {G : List (Tk × Nat)} (hG : wklS s.data.toList = G) (x : Fin G.length) (h : (gx G x.val).1.k = 0) : scanR s.data.toList = ([], ((gx G x.val).1.a : Int), 250) := by
  have hS : (toksS s.data.toList).2.1.length = (toksS s.data.toList).1.length := (toksS_rise s.data.toList).len
  have hw : wklS s.data.toList = (toksS s.data.toList).1.zip (toksS s.data.toList).2.1 ++ (if 0 ≤ (toksS s.data.toList).2.2 then [(⟨0, (toksS s.data.toList).2.2.toNat, []⟩, (toksS s.data.toList).2.2.toNat)] else []) := wkl_toks _ _ _
  have hx : gx G x.val ∈ G := by
    have : gx G x.val = G[x.val] := by simp [gx]
    rw [this]; exact List.getElem_mem _
  obtain ⟨y, hy⟩ : ∃ y, gx G x.val = y := ⟨_, rfl⟩
  rw [hy] at h hx ⊢
  rw [← hG, hw] at hx
  rcases List.mem_append.1 hx with hx | hx
  · exfalso
    exact absurd h (Nat.ne_of_gt (toks_kind _ _ _ _ (List.of_mem_zip (a := y.1) (b := y.2) hx).1))
  · split at hx
    · rename_i hb
      rw [List.mem_singleton.1 hx]
      unfold scanR
      rw [if_neg (by simp; omega), if_pos hb]
      show _ = (_, (((toksS s.data.toList).2.2.toNat : Nat) : Int), _)
      rw [Int.toNat_of_nonneg hb]
    · cases hx
theorem sc_res {V : World} {tmps : Array Value} {p2 p3 p4 : Nat} {v x y : Value} (b2 : Boxed V p2 22 v) (b3 : Boxed V p3 3 x) (b4 : Boxed V p4 23 y)
    (h2 : tmps.getD 2 undef = .pointer (some ⟨p2, 0, none⟩)) (h3 : tmps.getD 3 undef = .pointer (some ⟨p3, 0, none⟩)) (h4 : tmps.getD 4 undef = .pointer (some ⟨p4, 0, none⟩)) : (results Tryd.f9 tmps).run Tryd.prog V = .ok (.tuple #[v, x, y]) V := by
  have c2 := b2.cell
  have c3 := b3.cell
  have c4 := b4.cell
  have l2 : (loadVar 22 ⟨p2, 0, none⟩).run Tryd.prog V = .ok v V := by simp [go_sem, c2]
  have l3 : (loadVar 3 ⟨p3, 0, none⟩).run Tryd.prog V = .ok x V := by simp [go_sem, c3]
  have l4 : (loadVar 23 ⟨p4, 0, none⟩).run Tryd.prog V = .ok y V := by simp [go_sem, c4]
  have t2 : tmps[2]?.getD undef = .pointer (some ⟨p2, 0, none⟩) := by simpa using h2
  have t3 : tmps[3]?.getD undef = .pointer (some ⟨p3, 0, none⟩) := by simpa using h3
  have t4 : tmps[4]?.getD undef = .pointer (some ⟨p4, 0, none⟩) := by simpa using h4
  simp [results, Tryd.results9, t2, t3, t4, asAddr, l2, l3, l4]
theorem sc_end {V : World} {tmps : Array Value} {p2 p3 p4 : Nat} {v x y : Value} (b2 : Boxed V p2 22 v) (b3 : Boxed V p3 3 x) (b4 : Boxed V p4 23 y)
    (h2 : tmps.getD 2 undef = .pointer (some ⟨p2, 0, none⟩)) (h3 : tmps.getD 3 undef = .pointer (some ⟨p3, 0, none⟩)) (h4 : tmps.getD 4 undef = .pointer (some ⟨p4, 0, none⟩)) {R : Ending → World → Prop} (hR : R (.returned (.tuple #[v, x, y])) V) :
    bodyPostM Fence.wide 9 Tryd.prog Tryd.f9 R Exit.ret { tmps := tmps, defers := [] } V :=
  ⟨.tuple #[v, x, y], sc_res b2 b3 b4 h2 h3 h4, hR⟩
theorem sc_leave {W : World} {D : Nat} {tmps : Array Value} {p2 p3 p4 : Nat} {v x y : Value} (hD : W.heap[D]? = some (.deferred (some []))) (b2 : Boxed W p2 22 v) (b3 : Boxed W p3 3 x) (b4 : Boxed W p4 23 y)
    (h2 : tmps.getD 2 undef = .pointer (some ⟨p2, 0, none⟩)) (h3 : tmps.getD 3 undef = .pointer (some ⟨p3, 0, none⟩)) (h4 : tmps.getD 4 undef = .pointer (some ⟨p4, 0, none⟩)) {R : Ending → World → Prop} (hR : R (.returned (.tuple #[v, x, y])) (W.putObj D (.deferred none))) :
    bodyPostM Fence.wide 9 Tryd.prog Tryd.f9 R Exit.ret { tmps := tmps, defers := [{ target := .collected D, args := #[] }] } W := by
  have hg : W.grownBy (W.putObj D (.deferred none)) (some D) := grownBy_putObj' W D (.deferred none)
  have ne : ∀ {B t : Nat} {u : Value}, Boxed W B t u → some B ≠ some D := fun h e => by
    cases e
    rw [show W.heap[_]? = _ from h] at hD; cases hD
  exact ⟨by simp, .inl ⟨D, _, rfl, run_takeDeferred hD, ⟨.tuple #[v, x, y], sc_res (b2.kept hg (ne b2)) (b3.kept hg (ne b3)) (b4.kept hg (ne b4)) h2 h3 h4, hR⟩⟩⟩
def scF (b : Nat) (s : ByteArray) (x : Tk × Nat) (u : Nat) : Act := { tmps := #[.string s, undef, .pointer (some ⟨b, 0, none⟩), .pointer (some ⟨b + 1, 0, none⟩), .pointer (some ⟨b + 1 + 1, 0, none⟩), .pointer (some ⟨b + 1 + 1 + 1, 0, none⟩), .pointer (some ⟨u, 0, none⟩), .string s, .int .i64 (s.size : Int), .bool false, .string s, .func (.func 38) #[] #[.pointer (some ⟨b + 1 + 1 + 1 + 1, 0, none⟩)], .agg #[.int .i64 (x.1.k : Int), .int .i64 (x.1.a : Int), .string ⟨x.1.t.toArray⟩], .int .i64 (x.2 : Int), undef, undef, undef, undef, undef, undef, undef, undef, undef, undef], defers := [] }
set_option maxRecDepth 100000 in
set_option maxHeartbeats 4000000 in
theorem scan_small (s : ByteArray) (hs : s.size ≤ 2000) (w : World) (hE : Env w) (G : List (Tk × Nat)) (hG : wklS s.data.toList = G) :
    Calls Tryd.prog 9 #[.string s] w fun e w' => ∃ v, e = .returned (.tuple #[v, .int .i64 (scanR s.data.toList).2.1, .int .i64 (scanR s.data.toList).2.2]) ∧ TkAt w' v (scanR s.data.toList).1 ∧ Below w.heap.size w w' := by
  have l1 : ¬ (2000 : Int) < (s.size : Int) := by omega
  obtain ⟨i0, hi, hz0, hz1, hz2, hz3⟩ := infoTok
  have HW := hide (fun V => walk_e V s)
  refine (callsIn_wide (n := 9)).1 ?_
  refine callsIn_of_wp_marks Tryd.func9 rfl trivial ?_ rfl
  simp only [Tryd.ntmps9, List.size_toArray, List.length_cons, List.length_nil, Nat.reduceAdd, Nat.reduceSub, Array.replicate_succ, Array.replicate_zero, List.push_toArray, List.append_toArray, List.nil_append, List.cons_append]
  gi_wp2_with (first
    | ((refine ⟨trivial, ?_⟩); gi_at_call 24; refine CallsIn.mono (callsIn_wide.2 (HW.out _)) ?_; rintro e' w1 ⟨rfl, rfl⟩))
  obtain ⟨W0, hW0⟩ : ∃ W0, W0 = ((((w.alloc (.cells #[.slice none 0 0] 22)).alloc (.cells #[.int .i64 0] 3)).alloc (.cells #[.int .i64 0] 23)).alloc (.cells #[.slice none 0 0] 22)).alloc (.cells #[.string s] 9) := ⟨_, rfl⟩
  have hs1 : ((((w.alloc (.cells #[.slice none 0 0] 22)).alloc (.cells #[.int .i64 0] 3)).alloc (.cells #[.int .i64 0] 23)).alloc (.cells #[.slice none 0 0] 22)).heap.size = w.heap.size + 1 + 1 + 1 + 1 := by simp
  have h0 : ScI w (w.heap.size + 1 + 1 + 1 + 1) s G W0.heap.size [] W0 := by
    have e1 : (w.alloc (.cells #[.slice none 0 0] 22)).heap.size = w.heap.size + 1 := by simp
    have e2 : ((w.alloc (.cells #[.slice none 0 0] 22)).alloc (.cells #[.int .i64 0] 3)).heap.size = w.heap.size + 1 + 1 := by simp
    have e3 : (((w.alloc (.cells #[.slice none 0 0] 22)).alloc (.cells #[.int .i64 0] 3)).alloc (.cells #[.int .i64 0] 23)).heap.size = w.heap.size + 1 + 1 + 1 := by simp
    have k2 : Boxed W0 w.heap.size 22 (.slice none 0 0) := by rw [hW0]; exact ((((Boxed.new w _ _).alloc _).alloc _).alloc _).alloc _
    have k3 : Boxed W0 (w.heap.size + 1) 3 (.int .i64 0) := by rw [hW0, ← e1]; exact (((Boxed.new _ _ _).alloc _).alloc _).alloc _
    have k4 : Boxed W0 (w.heap.size + 1 + 1) 23 (.int .i64 0) := by rw [hW0, ← e2]; exact ((Boxed.new _ _ _).alloc _).alloc _
    have k5 : Boxed W0 (w.heap.size + 1 + 1 + 1) 22 (.slice none 0 0) := by rw [hW0, ← e3]; exact (Boxed.new _ _ _).alloc _
    have k6 : Boxed W0 (w.heap.size + 1 + 1 + 1 + 1) 9 (.string s) := by rw [hW0, ← hs1]; exact Boxed.new _ _ _
    have hb : Below w.heap.size w W0 := by rw [hW0]; exact below_trans (below_trans (below_trans (below_trans (below_alloc _ _) (below_alloc _ _)) (below_alloc _ _)) (below_alloc _ _)) (below_alloc _ _)
    exact ⟨k2, k3, k4, k6, ⟨_, k5, ⟨by simp [tkL], .inl ⟨rfl, rfl⟩⟩, .inl rfl⟩, hb, Nat.le_refl _, by simp⟩
  rw [← hW0]
  clear hW0 hs1
  have hbA := h0.bA
  have hE0 := hE.below h0.b
  have hw0 : 0 < w.heap.size := by
    obtain ⟨m, hm⟩ := hE
    rcases Nat.eq_zero_or_pos w.heap.size with h | h
    · have : w.heap[0]? = none := by rw [Array.eq_empty_of_size_eq_zero h]; rfl
      rw [World.cell?_of_block (w := World.mk #[] w.tape w.drawn w.os w.output) (w' := w) (by rw [this]; simp)] at hm
      simp [World.cell?] at hm
    · exact h
  have hb0 := h0.b
  have hAl := hbA.lt
  refine wpIn_rangeFunc_ownH rfl (by omega) (gf := 38) (lb := #[.pointer (some ⟨w.heap.size + 1 + 1 + 1 + 1, 0, none⟩)]) rfl trivial (enters_of Tryd.func38 (by kernel_rfl) rfl)
    (walk_stops s (by omega) G hG 8 (w.heap.size + 1 + 1 + 1 + 1) (KpT (w.heap.size + 1 + 1 + 1 + 1)) (fun _ _ h => h) W0 hbA hE0)
    (fun h h' => kpT_trans h h')
    (fun W l o o' hl ho hc _ => kpT_put (by omega) (by omega) ho hc) (Below.refl _ _) (fun _ => rfl)
    (ScI w (w.heap.size + 1 + 1 + 1 + 1) s G W0.heap.size) (fun c pre W => c = .ret ∧ ScX w G pre W)
    (ScI.own (by have := hb0.size; omega)) (fun c pre X Y row h hg hr => ⟨h.1, ScX.own (by have := hb0.size; omega) pre X Y row h.2 hg hr⟩) h0
    (fun x a' W => ∃ u, a' = scF w.heap.size s (gx G x.val) u ∧ Blk W u #[.int .i64 ((gx G x.val).1.k : Int), .int .i64 ((gx G x.val).1.a : Int), .string ⟨(gx G x.val).1.t.toArray⟩] 39)
    (fun x a' s X Y row hs hg hr => by
      obtain ⟨u, h1, h2⟩ := hs
      refine ⟨u, h1, (hg.block u h2.lt fun e => ?_).trans h2⟩
      obtain ⟨o, ho, hc⟩ := (hr u e.symm).2
      rw [show X.heap[u]? = _ from h2] at ho; cases ho; cases hc) ?assign ?body ?done ?stop
  case assign =>
    intro lp pre x W Kk hI hKk
    have HKk := hide hKk
    have HI' := hide hI
    clear hKk hI
    simp only [encT, tgA]
    obtain ⟨gt, hgt⟩ : ∃ gt, G.getD x.val (⟨0, 0, []⟩, 0) = gt := ⟨_, rfl⟩
    have hgx : gx G x.val = gt := hgt
    rw [hgt]
    rw [hgx] at HKk
    clear hgt hgx
    gi_wp2
    have hbA : Below W.heap.size W (W.alloc (.cells #[.int .i64 (gt.1.k : Int), .int .i64 (gt.1.a : Int), .string ⟨gt.1.t.toArray⟩] 39)) := below_alloc W _
    have hz := HI'.out.z
    have hb1 := HI'.out.b.size
    refine HKk.out _ _ (KeepsFrom.of_grownBy (grown_of_below hbA) (fun j e => by cases e)) (kpT_below hbA HI'.out.bA.lt (by omega)) ((ScI.own (Nat.le_refl _)) _ _ _ none HI'.out (grown_of_below hbA) (fun r e => by cases e)) ⟨W.heap.size, rfl, Blk.new W _ _⟩
  case body =>
    rintro lp pre x a' W hlp hr hI ⟨u, rfl, hu⟩ hlt
    obtain ⟨gt, hgt⟩ : ∃ gt, gx G x.val = gt := ⟨_, rfl⟩
    rw [hgt] at hu ⊢
    have c0 := hu.cell 0
    have c1 := hu.cell 1
    have c2 := hu.cell 2
    have HU := hide hu
    have HI' := hide hI
    have Hgt := hide hgt
    have hb1 := hI.b.size
    clear hu hI hgt
    simp only [scF]
    by_cases hk : gt.1.k = 0
    · have ek : ((gt.1.k : Int) == 0) = true := by simp [hk]
      have d2 := HI'.out.r2.cell
      have d3 := HI'.out.r3.cell
      have d4 := HI'.out.r4.cell
      have f2 := HI'.out.r2.frozen
      have f3 := HI'.out.r3.frozen
      have f4 := HI'.out.r4.frozen
      gi_wp2
      gi_region
      all_goals
        gi_wp2
        have hI := HI'.out
        refine ⟨((((KeepsOthers.setCell W _ _).trans (KeepsOthers.setCell _ _ _)).trans (KeepsOthers.setCell _ _ _)).trans (KeepsOthers.drew _)).from _, rfl, ?_⟩
        refine ⟨?_, ⟨x, by simp, by rw [Hgt.out]; exact hk, ?_⟩, ?_, ?_⟩
        · exact (Below.heap_setCell _ _ _ _ (by simp; omega)).trans ((Below.heap_setCell _ _ _ _ (by simp)).trans (hI.r2.set _))
        · rw [Hgt.out]
          exact (Below.heap_setCell _ _ _ _ (by simp)).trans (Boxed.set _ ((Below.heap_setCell _ _ _ _ (by simp)).trans hI.r3))
        · exact Boxed.set _ ((Below.heap_setCell _ _ _ _ (by simp)).trans ((Below.heap_setCell _ _ _ _ (by simp; omega)).trans hI.r4))
        · exact (((hI.b.setCell (Nat.le_refl _) _).setCell (show w.heap.size ≤ w.heap.size + 1 by omega) _).setCell (show w.heap.size ≤ w.heap.size + 1 + 1 by omega) _).drew
    · have ek : ((gt.1.k : Int) == 0) = false := by simp [hk]
      obtain ⟨v, hv, hrow, hnil⟩ := HI'.out.row
      have HV := hide hv
      have HR := hide hrow
      have HN := hide hnil
      have hc := hv.cell
      clear hv hrow hnil
      have hgl : pre.length < 4000000000 := Nat.lt_of_lt_of_le hlt (wkl_few s.data.toList hG (by simp; omega))
      gi_wp2_with (first
        | (gi_at_builtin; refine wpListIn_appK rfl _ _ 22 rfl w.heap.size 39 i0 hi 3 32 Tryd.underlying22 hz0 hz1 hz2 hz3.1 hz3.2 (by decide) _ _ _ rfl (HR.out.alloc _) HN.out ⟨W.heap.size, 0, none⟩ 1 [.int .i64 (gt.1.k : Int), .int .i64 (gt.1.a : Int), .string ⟨gt.1.t.toArray⟩] rfl rfl (World.news_of_block (heap_alloc_new W _)) (by simp [Value.oneCell']) (by unfold maxLen; omega) (by omega) (by simp; omega) ?_; intro v' w1 hown' hgrow hkeep; have HGw := hide hgrow; have HKw := hide hkeep; clear hkeep; obtain ⟨g', cap', rfl⟩ := ownsRow_succ hown'; obtain ⟨hv1, hv2, hr2, hk2, hb2⟩ := HV.out.appended (by decide) HR.out (by omega) (by omega) hown' hgrow; have hc1 := hv1.cell; have hf1 := hv1.frozen))
      have hI := HI'.out
      have hR := HR.out
      have hz := hb2.size
      have hA : Boxed (w1.setCell ⟨w.heap.size + 1 + 1 + 1, 0, none⟩ (.slice (some ⟨g', 0, none⟩) (pre.length + 1) cap')) (w.heap.size + 1 + 1 + 1 + 1) 9 (.string s) := box_app hI.bA (by decide) (by omega) hR HGw.out
      refine ⟨hk2.from _, ⟨hA.trans (Eq.symm hI.bA), hb2.block 0 hw0, fun k q hq hq3 => ?_⟩, ⟨box_app hI.r2 (by decide) (by omega) hR HGw.out, box_app hI.r3 (by decide) (by omega) hR HGw.out, box_app hI.r4 (by decide) (by omega) hR HGw.out, hA, ⟨_, hv2, ?_, .inr (by simp)⟩, hI.b.trans hb2, Nat.le_trans hI.z hz, ?_⟩⟩
      · have h1 := HKw.out k q (Blk.later hq (below_alloc W _)) hq3
        exact (Below.heap_setCell _ _ _ _ (show k ≠ w.heap.size + 1 + 1 + 1 from blk_ne hq (show Blk W _ _ _ from HV.out) (by decide))).trans h1
      · rw [List.map_append, tkL_append, List.length_append]
        simp only [List.map_cons, List.map_nil, tkL_one, List.length_singleton, Hgt.out]
        exact hr2
      · intro y hy
        rcases List.mem_append.1 hy with h | h
        · exact hI.ok y h
        · rw [List.mem_singleton.1 h, Hgt.out]; exact hk
  case done =>
    rintro D xs W hD rfl hI hK0
    obtain ⟨v, hv, hrow, hnil⟩ := hI.row
    rw [List.length_finRange] at hrow
    obtain ⟨p, cp, rfl⟩ : ∃ p cp, v = .slice p G.length cp := by
      rcases hrow.2 with ⟨rfl, h⟩ | ⟨g, cap, cur, rfl, _⟩
      · exact ⟨_, _, by rw [h]⟩
      · exact ⟨_, _, rfl⟩
    have HK := hide hK0
    have HI' := hide hI
    have HV := hide hv
    have HR := hide hrow
    have hc := hv.cell
    have d2 := hI.r2.cell
    have d3 := hI.r3.cell
    have d4 := hI.r4.cell
    have f2 := hI.r2.frozen
    have f3 := hI.r3.frozen
    have f4 := hI.r4.frozen
    clear hI hv hrow hK0 hnil
    gi_wp2
    have hI := HI'.out
    have hD0 : w.heap.size < D := by have := hI.b.size; omega
    have k2 : Boxed (((W.setCell ⟨w.heap.size, 0, none⟩ (.slice p G.length cp)).setCell ⟨w.heap.size + 1, 0, none⟩ (.int .i64 0)).setCell ⟨w.heap.size + 1 + 1, 0, none⟩ (.int .i64 0)) w.heap.size 22 (.slice p G.length cp) := (Below.heap_setCell _ _ _ _ (by simp; omega)).trans ((Below.heap_setCell _ _ _ _ (by simp)).trans (hI.r2.set _))
    have k3 : Boxed (((W.setCell ⟨w.heap.size, 0, none⟩ (.slice p G.length cp)).setCell ⟨w.heap.size + 1, 0, none⟩ (.int .i64 0)).setCell ⟨w.heap.size + 1 + 1, 0, none⟩ (.int .i64 0)) (w.heap.size + 1) 3 (.int .i64 0) := (Below.heap_setCell _ _ _ _ (by simp)).trans (Boxed.set _ ((Below.heap_setCell _ _ _ _ (by simp)).trans hI.r3))
    have k4 : Boxed (((W.setCell ⟨w.heap.size, 0, none⟩ (.slice p G.length cp)).setCell ⟨w.heap.size + 1, 0, none⟩ (.int .i64 0)).setCell ⟨w.heap.size + 1 + 1, 0, none⟩ (.int .i64 0)) (w.heap.size + 1 + 1) 23 (.int .i64 0) := Boxed.set _ ((Below.heap_setCell _ _ _ _ (by simp)).trans ((Below.heap_setCell _ _ _ _ (by simp; omega)).trans hI.r4))
    have kD : (((W.setCell ⟨w.heap.size, 0, none⟩ (.slice p G.length cp)).setCell ⟨w.heap.size + 1, 0, none⟩ (.int .i64 0)).setCell ⟨w.heap.size + 1 + 1, 0, none⟩ (.int .i64 0)).heap[D]? = some (.deferred (some [])) := (KeepsOthers.setCell _ _ _).same _ _ ((KeepsOthers.setCell _ _ _).same _ _ ((KeepsOthers.setCell _ _ _).same _ _ HK.out rfl) rfl) rfl
    have kb : Below w.heap.size w (((W.setCell ⟨w.heap.size, 0, none⟩ (.slice p G.length cp)).setCell ⟨w.heap.size + 1, 0, none⟩ (.int .i64 0)).setCell ⟨w.heap.size + 1 + 1, 0, none⟩ (.int .i64 0)) := ((hI.b.setCell (Nat.le_refl _) _).setCell (show w.heap.size ≤ w.heap.size + 1 by omega) _).setCell (show w.heap.size ≤ w.heap.size + 1 + 1 by omega) _
    have kr : (((W.setCell ⟨w.heap.size, 0, none⟩ (.slice p G.length cp)).setCell ⟨w.heap.size + 1, 0, none⟩ (.int .i64 0)).setCell ⟨w.heap.size + 1 + 1, 0, none⟩ (.int .i64 0)).ownsRow w.heap.size 39 3 (.slice p G.length cp) G.length (tkL ((List.finRange G.length).map fun x => (gx G x.val).1)) :=
      row_set (b := w.heap.size + 1 + 1) (row_set (b := w.heap.size + 1) (row_set (b := w.heap.size) HR.out hI.r2 (by decide) _) ((Below.heap_setCell _ _ _ _ (by simp)).trans hI.r3) (by decide) _) ((Below.heap_setCell _ _ _ _ (by simp)).trans ((Below.heap_setCell _ _ _ _ (by simp; omega)).trans hI.r4)) (by decide) _
    have hok := hI.ok
    generalize (((W.setCell ⟨w.heap.size, 0, none⟩ (.slice p G.length cp)).setCell ⟨w.heap.size + 1, 0, none⟩ (.int .i64 0)).setCell ⟨w.heap.size + 1 + 1, 0, none⟩ (.int .i64 0)) = V at *
    obtain ⟨hsc, htl⟩ := wkl_good hs hG (fun x hx => hok x (List.mem_finRange x))
    refine sc_leave kD k2 k3 k4 (by rfl) (by rfl) (by rfl) ⟨.slice p G.length cp, ?_, ?_, kb.trans (belowK_b (w := w) (Nat.le_refl _) V D _ _ (by omega) kD rfl rfl)⟩
    · rw [hsc]
    · have := ownsRow_putObj kr (.deferred none) kD rfl
      rw [hsc]
      rw [htl] at this
      have hL := congrArg List.length htl
      rw [List.length_map, List.length_finRange] at hL
      rw [hL] at this ⊢
      exact tkAt_own this
  case stop =>
    rintro D cc pre W hD _ ⟨rfl, hx⟩ hK0
    have HK := hide hK0
    have HX := hide hx
    clear hK0 hx
    gi_wp2
    have hX := HX.out
    have hK := HK.out
    obtain ⟨y, hy, hy0, h3⟩ := hX.at_
    have hD0 : w.heap.size < D := by have := hX.b.size; omega
    have hsc := wkl_wrong hs hG y hy0
    refine sc_leave hK hX.r2 h3 hX.r4 (by rfl) (by rfl) (by rfl) ⟨.slice none 0 0, ?_, ?_, hX.b.trans (belowK_b (w := w) (Nat.le_refl _) W D _ _ (by omega) hK rfl rfl)⟩
    · rw [hsc]
    · rw [hsc]; exact ⟨_, _, rfl, fun h => absurd h (by simp)⟩
set_option maxRecDepth 100000 in
theorem scan_large (s : ByteArray) (hs : 2000 < s.size) (w : World) : Calls Tryd.prog 9 #[.string s] w fun e w' => ∃ v, e = .returned (.tuple #[v, .int .i64 (scanR s.data.toList).2.1, .int .i64 (scanR s.data.toList).2.2]) ∧ TkAt w' v (scanR s.data.toList).1 ∧ Below w.heap.size w w' := by
  have l1 : (2000 : Int) < (s.size : Int) := by omega
  have hsc : scanR s.data.toList = ([], 0, 3) := by unfold scanR; rw [if_pos (by simpa using hs)]
  rw [hsc]
  clear hsc
  refine (callsIn_wide (n := 9)).1 ?_
  refine callsIn_of_wp_marks Tryd.func9 rfl trivial ?_ rfl
  simp only [Tryd.ntmps9, List.size_toArray, List.length_cons, List.length_nil, Nat.reduceAdd, Nat.reduceSub, Array.replicate_succ, Array.replicate_zero, List.push_toArray, List.append_toArray, List.nil_append, List.cons_append]
  gi_wp2
  have e1 : (w.alloc (.cells #[.slice none 0 0] 22)).heap.size = w.heap.size + 1 := by simp
  have e2 : ((w.alloc (.cells #[.slice none 0 0] 22)).alloc (.cells #[.int .i64 0] 3)).heap.size = w.heap.size + 1 + 1 := by simp
  refine sc_end (p2 := w.heap.size) (p3 := w.heap.size + 1) (p4 := w.heap.size + 1 + 1) (((Boxed.new w _ _).alloc _).alloc _) (by rw [← e1]; exact (Boxed.new _ _ _).alloc _) (by rw [← e2]; exact Boxed.new _ _ _) (by rfl) (by rfl) (by rfl) ⟨.slice none 0 0, rfl, ⟨_, _, rfl, fun h => absurd h (by simp)⟩, below_trans (below_trans (below_alloc _ _) (below_alloc _ _)) (below_alloc _ _)⟩
theorem scan_e (s : ByteArray) (w : World) (hE : Env w) : Calls Tryd.prog 9 #[.string s] w fun e w' => ∃ v, e = .returned (.tuple #[v, .int .i64 (scanR s.data.toList).2.1, .int .i64 (scanR s.data.toList).2.2]) ∧ TkAt w' v (scanR s.data.toList).1 ∧ Below w.heap.size w w' := by
  rcases Nat.lt_or_ge 2000 s.size with h | h
  · exact scan_large s h w
  · exact scan_small s h w hE _ rfl
end Go.Proofs.YtkooijhdjjdigaaDoor
