/- Package spill: walk over the pages of a chain: its state. -/
/- Package spill: walk over the pages of a chain. -/
import Derived.Test.YthgclfhfipfknaaGreatPNC
namespace Go.Proofs.YthgclfhfipfknaaGreat
variable {sv : Value}
open Go.ChangeShapes Go.WideShapes Go.ChangeAt Go.RowKit Go.Maps Go.Shelf
set_option linter.unusedVariables false

def IntB (w : World) (g : Nat) (G : List Nat) : Prop := ∃ cur, Blk w g cur 3 ∧ cur.toList.take G.length = inL G
/-- The step that Drop hands to walk. -/
def dropF (Bx : Nat) : Value := .func (.func 41) #[] #[.pointer (some ⟨Bx, 0, none⟩)]
structure WkI (sv : Value) (w W : World) (B0 t pm n base k : Nat) (s0 : Sn) (a3 a5 a6 a7 Bx g : Nat) (G : List Nat) : Prop where
  tr : ∃ P' K', Tr sv W t pm n P' K' true ∧ K' ≤ k
  ss : Sv W base sv [s0] pm
  bel : Below B0 w W
  b3 : Blk W a3 #[.pointer (some ⟨t, 0, none⟩)] 24
  b5 : Blk W a5 #[dropF Bx] 87
  b6 : Blk W a6 #[.int .i64 0] 35
  b7 : Blk W a7 #[.int .i64 1] 3
  bB : Blk W Bx #[.pointer (some ⟨t, 0, none⟩)] 24
  bI : IntB W g G
  b0 : B0 ≤ W.heap.size
/-- A step was made. -/
theorem WkI.step {w W w1 : World} {B0 t pm n base k : Nat} {s0 : Sn} {a3 a5 a6 a7 Bx g : Nat} {G : List Nat} {P' : Nat → List UInt8} {K' : Nat} (h : WkI sv w W B0 t pm n base k s0 a3 a5 a6 a7 Bx g G) (ht : Tr sv w1 t pm n P' K' true) (hk : K' ≤ k + 3) (ho : Only [t, pm] W w1) (h1 : B0 ≤ t) (h2 : B0 ≤ pm) : WkI sv w w1 B0 t pm n base (k + 3) s0 a3 a5 a6 a7 Bx g G := by
  obtain ⟨P0, K0, h0, _⟩ := h.tr
  obtain ⟨cur, c1, c2⟩ := h.bI
  exact ⟨⟨P', K', ht, hk⟩, h.ss.tx h0 ho, h.bel.trans (ho.below h.b0 (fun j hj => by simp at hj; omega)), h0.apart ho h.b3 (by decide), h0.apart ho h.b5 (by decide), h0.apart ho h.b6 (by decide), h0.apart ho h.b7 (by decide), h0.apart ho h.bB (by decide), ⟨cur, h0.apart ho c1 (by decide), c2⟩, Nat.le_trans h.b0 ho.size⟩
theorem WkI.ownF {w X Y : World} {B0 t pm n base k B : Nat} {s0 : Sn} {a3 a5 a6 a7 Bx g : Nat} {G : List Nat} {row : Option Nat} (h : WkI sv w X B0 t pm n base k s0 a3 a5 a6 a7 Bx g G) (hg : X.grownBy Y row) (hr : ∀ r, row = some r → B ≤ r ∧ ∃ o : Obj, X.heap[r]? = some o ∧ o.isCells = false) (ht : t < B) (hp : pm < B) (hs : s0.pm < B) (hB : B0 ≤ B) : WkI sv w Y B0 t pm n base k s0 a3 a5 a6 a7 Bx g G := by
  obtain ⟨P0, K0, h0, hk0⟩ := h.tr
  obtain ⟨cur, c1, c2⟩ := h.bI
  have kk : ∀ {b : Nat} {c : Array Value} {ty : TypeId}, Blk X b c ty → Blk Y b c ty := fun {b c ty} hb => (hg.block b hb.lt (fun e => by
    obtain ⟨_, o, ho', hc⟩ := hr b e.symm
    rw [show X.heap[b]? = _ from hb] at ho'; cases ho'; cases hc)).trans hb
  refine ⟨⟨P0, K0, h0.ownF hg hr ht hp, hk0⟩, h.ss.ownF hg hr (by simpa using hs), h.bel.trans ⟨hg.os, hg.tape, hg.output, hg.size, fun i hi => ?_⟩, kk h.b3, kk h.b5, kk h.b6, kk h.b7, kk h.bB, ⟨cur, kk c1, c2⟩, Nat.le_trans h.b0 hg.size⟩
  exact hg.block i (Nat.lt_of_lt_of_le hi h.b0) (fun e => by have := (hr i e.symm).1; omega)
theorem svw_keep {w w' : World} {t pm n base : Nat} {P : Nat → List UInt8} {K : Nat} {wr : Bool} {S : List Sn} (ht : Tr sv w t pm n P K wr) (hs : Sv w base sv S pm) (ho : Only (t :: sv.ownBlock.toList) w w') {b : Nat} {c : Array Value} {ty : TypeId} (hb : Blk w b c ty) (n1 : ty ≠ 122) (n2 : ty ≠ 117) : Blk w' b c ty := by
  obtain ⟨cs, hc⟩ := ht.blk
  refine hb.only ho (fun hm => ?_)
  rcases List.mem_cons.1 hm with rfl | hm
  · exact blk_ne hb hc n1 rfl
  · have e : sv.ownBlock = some b := by simpa using hm
    obtain ⟨_, c', hb'⟩ := ownC_blk hs.row e
    exact blk_ne hb hb' n2 rfl
theorem svw_below {w0 w w' : World} {B0 t pm base : Nat} {S : List Sn} (hs : Sv w base sv S pm) (ho : Only (t :: sv.ownBlock.toList) w w') (hb : Below B0 w0 w) (h1 : B0 ≤ t) (h2 : B0 ≤ base) (h3 : B0 ≤ w.heap.size) : Below B0 w0 w' := by
  refine hb.trans (ho.below h3 (fun j hj => ?_))
  rcases List.mem_cons.1 hj with rfl | hj
  · exact h1
  · have e : sv.ownBlock = some j := by simpa using hj
    have := (ownC_blk hs.row e).1
    omega
theorem wk_start {w w3 w4 : World} {B0 t pm n base q : Nat} {P : Nat → List UInt8} {K : Nat} {sv4 : Value} (h : Tr sv w3 t pm n P K true) (hs : Sv w3 base sv [] pm) (hv : SvW w3 w4 t pm n base P K true sv sv4 [] q) (hb : Below w.heap.size w w3) {a3 a5 a6 Bx g : Nat} {G : List Nat} (k3 : Blk w3 a3 #[.pointer (some ⟨t, 0, none⟩)] 24) (k5 : Blk w3 a5 #[dropF Bx] 87) (k6 : Blk w3 a6 #[.int .i64 0] 35) (kB : Blk w3 Bx #[.pointer (some ⟨t, 0, none⟩)] 24) (kI : IntB w3 g G) (h0 : B0 ≤ t ∧ B0 ≤ pm ∧ B0 ≤ base ∧ base ≤ w.heap.size) :
    WkI sv4 w (w4.alloc (.cells #[.int .i64 1] 3)) B0 t pm n base K ⟨n, q, K, P⟩ a3 a5 a6 w4.heap.size Bx g G := by
  have hb4 := below_alloc w4 (.cells #[.int .i64 1] 3)
  have kk : ∀ {b : Nat} {c : Array Value} {ty : TypeId}, Blk w3 b c ty → ty ≠ 122 → ty ≠ 117 → Blk (w4.alloc (.cells #[.int .i64 1] 3)) b c ty := fun {b c ty} hb n1 n2 => (svw_keep h hs hv.on hb n1 n2).later hb4
  obtain ⟨cur, c1, c2⟩ := kI
  have hs1 := hb.size
  have hs2 := hv.on.size
  exact ⟨⟨P, K, hv.tr.later hb4, Nat.le_refl _⟩, hv.ss.later hb4, (svw_below hs hv.on (hb.mono (by omega)) h0.1 h0.2.2.1 (by omega)).trans (hb4.mono (by omega)), kk k3 (by decide) (by decide), kk k5 (by decide) (by decide), kk k6 (by decide) (by decide), Blk.new _ _ _, kk kB (by decide) (by decide), ⟨cur, kk c1 (by decide) (by decide), c2⟩, by simp; omega⟩
/-- The frame of walk in its range. -/
def wkA (a3 a5 a6 a7 k : Nat) (u : Nat → Value) : Act := { tmps := #[u 0, u 1, u 2, .pointer (some ⟨a3, 0, none⟩), u 4, .pointer (some ⟨a5, 0, none⟩), .pointer (some ⟨a6, 0, none⟩), .pointer (some ⟨a7, 0, none⟩), u 8, .int .i64 (k : Int), u 10, u 11, u 12, u 13, u 14, u 15, u 16, u 17, u 18, u 19, u 20, u 21, u 22, u 23, u 24, u 25, u 26, u 27, u 28, u 29, u 30, u 31], defers := [] }
theorem wk_ex {a3 a5 a6 a7 k : Nat} {a : Act} (h : a = wkA a3 a5 a6 a7 k (fun i => a.tmps.getD i undef)) : ∃ u, a = wkA a3 a5 a6 a7 k u := ⟨_, h⟩
/-- Where a step was refused. -/
structure WkX (w W : World) (B0 t base a6 : Nat) : Prop where
  lt : ∃ sv2 S2, Lt sv2 W t base S2 ∧ 1 ≤ S2.length ∧ S2.length ≤ 2000
  b6 : ∃ E : Int, Blk W a6 #[.int .i64 E] 35 ∧ (E = 0 ∨ E = 2 ∨ E = 8)
  bel : Below B0 w W
  b0 : B0 ≤ W.heap.size
theorem WkX.ownF {w X Y : World} {B0 t base a6 B : Nat} {row : Option Nat} (h : WkX w X B0 t base a6) (hg : X.grownBy Y row) (hr : ∀ r, row = some r → B ≤ r ∧ ∃ o : Obj, X.heap[r]? = some o ∧ o.isCells = false) (ht : t < B) (hB : B0 ≤ B) : WkX w Y B0 t base a6 := by
  obtain ⟨sv2, S2, h1, h2, h3⟩ := h.lt
  obtain ⟨E, h4, h5⟩ := h.b6
  refine ⟨⟨sv2, S2, h1.ownF hg hr ht, h2, h3⟩, ⟨E, ?_, h5⟩, h.bel.trans ⟨hg.os, hg.tape, hg.output, hg.size, fun i hi => hg.block i (Nat.lt_of_lt_of_le hi h.b0) (fun e => by have := (hr i e.symm).1; omega)⟩, Nat.le_trans h.b0 hg.size⟩
  exact (hg.block a6 h4.lt (fun e => by
    obtain ⟨_, o, ho', hc⟩ := hr a6 e.symm
    rw [show X.heap[a6]? = _ from h4] at ho'; cases ho'; cases hc)).trans h4
/-- Behind the range: what leaves the function. -/
theorem wk_leave {w W : World} {B0 t base a6 : Nat} {sv2 : Value} {S2 : List Sn} {E : Int} {tmps : Array Value} {D : Nat} (hL : Lt sv2 W t base S2) (h1 : 1 ≤ S2.length) (h2 : S2.length ≤ 2000) (h6 : Blk W a6 #[.int .i64 E] 35) (hE : E = 0 ∨ E = 2 ∨ E = 8) (hb : Below B0 w W) (h0 : B0 ≤ W.heap.size) (hD : W.heap[D]? = some (.deferred (some []))) (hB : B0 ≤ D) (ht0 : B0 ≤ t) (hb0 : B0 ≤ base) (htm : tmps.getD 6 undef = .pointer (some ⟨a6, 0, none⟩)) (htD : t < D) :
    LeavesInM Fence.wide 9 Tryz.prog Tryz.f39 tmps (fun e w' => ∃ E : Int, e = .returned (.int .i64 E) ∧ (E = 0 ∨ E = 2 ∨ E = 8) ∧ Below B0 w w') [{ target := .collected D, args := #[] }, { target := .fn (.func 110) #[], args := #[.pointer (some ⟨t, 0, none⟩), .int .i64 1] }] .returning W := by
  have hg : W.grownBy (W.putObj D (.deferred none)) (some D) := grownBy_putObj' W D (.deferred none)
  have hr : ∀ r, some D = some r → D ≤ r ∧ ∃ o : Obj, W.heap[r]? = some o ∧ o.isCells = false := fun r e => by cases e; exact ⟨Nat.le_refl _, _, hD, rfl⟩
  have hL' := hL.ownF hg hr htD
  have h6' : Blk (W.putObj D (.deferred none)) a6 #[.int .i64 E] 35 := put_blk h6 hD
  have hb' : Below B0 w (W.putObj D (.deferred none)) := hb.trans ⟨hg.os, hg.tape, hg.output, hg.size, fun i hi => hg.block i (Nat.lt_of_lt_of_le hi h0) (fun e => by cases e; omega)⟩
  have h0' : B0 ≤ (W.putObj D (.deferred none)).heap.size := Nat.le_trans h0 hg.size
  refine ⟨by simp, .inl ⟨D, _, rfl, run_takeDeferred hD, ?_⟩⟩
  generalize W.putObj D (.deferred none) = V at *
  refine ⟨by simp, .inr ⟨fun h => absurd h (by decide), .func 110, #[], 110, #[.pointer (some ⟨t, 0, none⟩), .int .i64 1], rfl, ?_, fun _ _ => trivial, ?_⟩⟩
  · simp [invoke, go_sem]
  · refine (release_d (9 - 1) .returning V t base 1 hL' (Nat.le_refl _) h1 h2).mono ?_
    rintro e u' w' ⟨rfl, rfl, ho⟩
    have hk : Blk w' a6 #[.int .i64 E] 35 := by
      obtain ⟨cs, hc, _⟩ := hL'.blk
      refine h6'.only ho (fun hm => ?_)
      rcases List.mem_cons.1 hm with rfl | hm
      · exact blk_ne h6' hc (by decide) rfl
      · have e : sv2.ownBlock = some a6 := by simpa using hm
        obtain ⟨_, c', hb2⟩ := ownC_blk hL'.row e
        exact blk_ne h6' hb2 (by decide) rfl
    have hbw : Below B0 w w' := by
      refine hb'.trans (ho.below h0' (fun j hj => ?_))
      rcases List.mem_cons.1 hj with rfl | hj
      · exact ht0
      · have e : sv2.ownBlock = some j := by simpa using hj
        have := (ownC_blk hL'.row e).1
        omega
    refine ⟨.int .i64 E, ?_, E, rfl, hE, hbw⟩
    have hc : w'.cell? ⟨a6, 0, none⟩ = some (.int .i64 E) := hk.cell 0
    have hld2 : (loadVar 35 ⟨a6, 0, none⟩).run Tryz.prog w' = .ok (.int .i64 E) w' := by
      simp [go_sem, hc]
    have ht' : tmps[6]?.getD undef = .pointer (some ⟨a6, 0, none⟩) := by simpa using htm
    simp [results, Tryz.results39, ht', asAddr, hld2]
theorem keeps_only {B : Nat} {W V : World} {S : List Nat} (ho : Only S W V) (hS : ∀ k ∈ S, k < B ∨ ∃ c ty, Blk W k c ty) : KeepsFrom B W V :=
  ⟨ho.size, fun k o hk hko hc => ho.blk hko (fun hm => by
    rcases hS k hm with h | ⟨c, ty, h⟩
    · omega
    · rw [show W.heap[k]? = _ from h] at hko; cases hko; cases hc)⟩
/-- A step was made, and the range goes on. -/
theorem wk_goes {w W w1 : World} {B B0 t pm n base k : Nat} {s0 : Sn} {a3 a5 a6 a7 Bx g : Nat} {G : List Nat} {P' : Nat → List UInt8} {K' K0 : Nat} (h : WkI sv w W B0 t pm n base k s0 a3 a5 a6 a7 Bx g G) (ht : Tr sv w1 t pm n P' K' true) (hK0 : K0 ≤ k) (hk : K' ≤ K0 + 3) (ho : Only [t, pm] W w1) (h1 : B0 ≤ t) (h2 : B0 ≤ pm) (hb1 : t < B) (hb2 : pm < B) : KeepsFrom B W w1 ∧ w1.heap[g]? = W.heap[g]? ∧ WkI sv w w1 B0 t pm n base (k + 3) s0 a3 a5 a6 a7 Bx g G := by
  have hi := h.step ht (by omega) ho h1 h2
  obtain ⟨P0, K0, q0, _⟩ := h.tr
  obtain ⟨cur, c1, c2⟩ := h.bI
  have := q0.apart ho c1 (by decide)
  exact ⟨keeps_only ho (fun k hk => by simp at hk; omega), by rw [show w1.heap[g]? = _ from this, show W.heap[g]? = _ from c1], hi⟩
/-- A step was refused, and all is taken back. -/
theorem wk_refused {w W w1 w2 : World} {B B0 t pm n base k q : Nat} {s0 : Sn} {a3 a5 a6 a7 Bx g : Nat} {G : List Nat} {P' : Nat → List UInt8} {K' : Nat} {sv' : Value} {E : Int} (h : WkI sv w W B0 t pm n base k s0 a3 a5 a6 a7 Bx g G) (ht : Tr sv w1 t pm n P' K' true) (ho : Only [t, pm] W w1) (hf : FgW w1 w2 t q s0.n base s0.P s0.K true sv sv' [s0] 1) (hE : E = 0 ∨ E = 2 ∨ E = 8) (h1 : B0 ≤ t) (h2 : B0 ≤ pm) (h3 : B0 ≤ base) (h4 : B0 ≤ a6) (hb1 : t < B) (hb2 : pm < B) :
    w2.frozen? ⟨a6, 0, none⟩ = false ∧ w2.cell? ⟨a6, 0, none⟩ = some (.int .i64 0) ∧ KeepsFrom B W (w2.setCell ⟨a6, 0, none⟩ (.int .i64 E)) ∧ WkX w (w2.setCell ⟨a6, 0, none⟩ (.int .i64 E)) B0 t base a6 := by
  obtain ⟨P0, K0, q0, _⟩ := h.tr
  have ss1 := h.ss.tx q0 ho
  have k6 := q0.apart ho h.b6 (by decide)
  have k62 := svw_keep ht ss1 hf.on k6 (by decide) (by decide)
  have hL := hf.tr.lt hf.ss
  have hs1 := ho.size
  have hs2 := hf.on.size
  have hb := h.b0
  have bel1 : Below B0 w w1 := h.bel.trans (ho.below hb (fun j hj => by simp at hj; omega))
  have bel2 := svw_below ss1 hf.on bel1 h1 h3 (by omega)
  obtain ⟨cs, hc⟩ := ht.blk
  have o6 := Only.setCell w2 ⟨a6, 0, none⟩ (.int .i64 E)
  have hLs : Lt sv' (w2.setCell ⟨a6, 0, none⟩ (.int .i64 E)) t base ([s0].take 1) := by
    obtain ⟨j, d, mb, l, room, L, c, n', pm', wr', g1, g2, g3⟩ := hL.gr
    have nk : ∀ {b : Nat} {c : Array Value} {ty : TypeId}, Blk w2 b c ty → ty ≠ 35 → b ∉ [a6] := fun {b c ty} hb n1 hm => by
      have e : b = a6 := by simpa using hm
      subst e
      exact blk_ne hb k62 n1 rfl
    refine ⟨⟨j, d, mb, l, room, L, c, n', pm', wr', g1.only o6 (nk g1.jr (by decide)) (nk g1.de.blk (by decide)) (fun hm => by have e : mb = a6 := (by simpa using hm); subst e; exact blk_map k62 g1.de.mp rfl) (nk g1.lk (by decide)), Blk.only g2 o6 (nk g2 (by decide)), g3⟩, own_only2 hL.row o6 (fun g hg => ?_)⟩
    obtain ⟨_, c', hb'⟩ := ownC_blk hL.row hg
    exact nk hb' (by decide)
  refine ⟨k62.frozen 0, k62.cell 0, ?_, ⟨⟨sv', _, hLs, by simp, by simp⟩, ⟨E, k62.set 0 _, hE⟩, bel2.trans (o6.below (by omega) (fun j hj => by simp at hj; omega)), by have := o6.size; omega⟩⟩
  refine KeepsFrom.trans (keeps_only ho (fun k hk => by simp at hk; omega)) (KeepsFrom.trans (keeps_only hf.on (fun k hk => ?_)) (keeps_only o6 (fun k hk => ?_)))
  · rcases List.mem_cons.1 hk with rfl | hk
    · exact .inr ⟨_, _, hc⟩
    · have e : sv.ownBlock = some k := by simpa using hk
      obtain ⟨_, c', hb'⟩ := ownC_blk ss1.row e
      exact .inr ⟨_, _, hb'⟩
  · have e : k = a6 := by simpa using hk
    subst e
    exact .inr ⟨_, _, k62⟩
theorem Lt.set6 {w : World} {t base a6 : Nat} {S : List Sn} {c6 : Array Value} (hL : Lt sv w t base S) (k6 : Blk w a6 c6 35) (v : Value) : Lt sv (w.setCell ⟨a6, 0, none⟩ v) t base S := by
  have o6 := Only.setCell w ⟨a6, 0, none⟩ v
  obtain ⟨j, d, mb, l, room, L, c, n', pm', wr', g1, g2, g3⟩ := hL.gr
  have nk : ∀ {b : Nat} {c : Array Value} {ty : TypeId}, Blk w b c ty → ty ≠ 35 → b ∉ [a6] := fun {b c ty} hb n1 hm => by
    have e : b = a6 := by simpa using hm
    subst e
    exact blk_ne hb k6 n1 rfl
  refine ⟨⟨j, d, mb, l, room, L, c, n', pm', wr', g1.only o6 (nk g1.jr (by decide)) (nk g1.de.blk (by decide)) (fun hm => by have e : mb = a6 := (by simpa using hm); subst e; exact blk_map k6 g1.de.mp rfl) (nk g1.lk (by decide)), Blk.only g2 o6 (nk g2 (by decide)), g3⟩, own_only2 hL.row o6 (fun g hg => ?_)⟩
  obtain ⟨_, c', hb'⟩ := ownC_blk hL.row hg
  exact nk hb' (by decide)
theorem wk_done {w W : World} {B0 t pm n base k : Nat} {s0 : Sn} {a3 a5 a6 a7 Bx g : Nat} {G : List Nat} {D : Nat} (h : WkI sv w W B0 t pm n base k s0 a3 a5 a6 a7 Bx g G) (hD : W.heap[D]? = some (.deferred (some []))) (hB : B0 ≤ D) (ht0 : B0 ≤ t) (hb0 : B0 ≤ base) (h6 : B0 ≤ a6) (htD : t < D) {tmps : Array Value} (htm : tmps.getD 6 undef = .pointer (some ⟨a6, 0, none⟩)) :
    LeavesInM Fence.wide 9 Tryz.prog Tryz.f39 tmps (fun e w' => ∃ E : Int, e = .returned (.int .i64 E) ∧ (E = 0 ∨ E = 2 ∨ E = 8) ∧ Below B0 w w') [{ target := .collected D, args := #[] }, { target := .fn (.func 110) #[], args := #[.pointer (some ⟨t, 0, none⟩), .int .i64 1] }] .returning (W.setCell ⟨a6, 0, none⟩ (.int .i64 0)) := by
  obtain ⟨P0, K0, q0, _⟩ := h.tr
  have o6 := Only.setCell W ⟨a6, 0, none⟩ (.int .i64 0)
  refine wk_leave ((q0.lt h.ss).set6 h.b6 _) (by simp) (by simp) (h.b6.set 0 (.int .i64 0)) (.inl rfl) (h.bel.trans (o6.below h.b0 (fun j hj => by simp at hj; omega))) (Nat.le_trans h.b0 o6.size) (o6.blk hD (fun hm => ?_)) hB ht0 hb0 htm htD
  have e : D = a6 := by simpa using hm
  subst e
  rw [show W.heap[D]? = _ from h.b6] at hD
  cases hD
end Go.Proofs.YthgclfhfipfknaaGreat

namespace Go.Proofs.YthgclfhfipfknaaGreat
variable {sv : Value}
open Go.ChangeShapes Go.WideShapes Go.ChangeAt Go.RowKit Go.Maps Go.Shelf
set_option linter.unusedVariables false
attribute [local go_sem] Oper.semAt_some

set_option maxRecDepth 100000 in
set_option maxHeartbeats 4000000 in
theorem walkI_e (w : World) (B0 t pm n base : Nat) {P : Nat → List UInt8} {K : Nat} (h : Tr sv w t pm n P K true) (hs : Sv w base sv [] pm) (h1 : 1 ≤ n) (Bx Bp g cap : Nat) (G : List Nat) (hG : G.length ≤ 4000) (hK : K + 3 * G.length ≤ 99998) (hBx : Blk w Bx #[.pointer (some ⟨t, 0, none⟩)] 24) (hBp : Blk w Bp #[.slice (some ⟨g, 0, none⟩) G.length cap] 27) (hI : IntB w g G) (h0 : B0 ≤ t ∧ B0 ≤ pm ∧ B0 ≤ base ∧ base ≤ w.heap.size) :
    Calls Tryz.prog 39 #[.pointer (some ⟨t, 0, none⟩), .func (.func 112) #[] #[.pointer (some ⟨Bp, 0, none⟩)], dropF Bx] w fun e w' => ∃ E : Int, e = .returned (.int .i64 E) ∧ (E = 0 ∨ E = 2 ∨ E = 8) ∧ Below B0 w w' := by
  obtain ⟨w3, hw3⟩ : ∃ w3, w3 = ((w.alloc (.cells #[.pointer (some ⟨t, 0, none⟩)] 24)).alloc (.cells #[dropF Bx] 87)).alloc (.cells #[.int .i64 0] 35) := ⟨_, rfl⟩
  have hb3 : Below w.heap.size w w3 := by rw [hw3]; exact below_trans (below_trans (below_alloc _ _) (below_alloc _ _)) (below_alloc _ _)
  have e1 : (w.alloc (.cells #[.pointer (some ⟨t, 0, none⟩)] 24)).heap.size = w.heap.size + 1 := by simp
  have e2 : ((w.alloc (.cells #[.pointer (some ⟨t, 0, none⟩)] 24)).alloc (.cells #[dropF Bx] 87)).heap.size = w.heap.size + 1 + 1 := by simp
  have k3 : Blk w3 w.heap.size #[.pointer (some ⟨t, 0, none⟩)] 24 := by rw [hw3]; exact Blk.later (Blk.later (Blk.new w _ _) (below_alloc _ _)) (below_alloc _ _)
  have k5 : Blk w3 (w.heap.size + 1) #[dropF Bx] 87 := by rw [hw3, ← e1]; exact Blk.later (Blk.new _ _ _) (below_alloc _ _)
  have k6 : Blk w3 (w.heap.size + 1 + 1) #[.int .i64 0] 35 := by rw [hw3, ← e2]; exact Blk.new _ _ _
  have HSave := hide (save_e w3 t pm n base (h.later hb3) (hs.later hb3) (Nat.le_trans h0.2.2.2 hb3.size) (by simp))
  rw [List.length_nil] at HSave
  have c3 := k3.cell 0
  have HF := hide (And.intro k3 (And.intro k5 k6))
  have HX := hide (And.intro (Blk.later hBx hb3) (show IntB w3 g G from (let ⟨cur, c1, c2⟩ := hI; ⟨cur, Blk.later c1 hb3, c2⟩)))
  have HBp := hide (Blk.later hBp hb3)
  have HS0 := hide (hs.later hb3)
  have HB3 := hide hb3
  have HT := hide h
  clear k3 k5 k6 hBx hBp hs h hI e1 e2
  refine (callsIn_wide (n := 9)).1 ?_
  refine callsIn_of_wp_marks Tryz.func39 rfl trivial ?_ rfl
  refine wpIn_wide.2 ?_
  simp only [Tryz.ntmps39, List.size_toArray, List.length_cons, List.length_nil, Nat.reduceAdd, Nat.reduceSub, Array.replicate_succ, Array.replicate_zero, List.push_toArray, List.append_toArray, List.nil_append, List.cons_append]
  simp only [dropF] at hw3
  simp only [dropF]
  have HSt := hide (fun w4 sv4 q (hv : SvW w3 w4 t pm n base P K true sv sv4 [] q) => And.intro (wk_start (HT.out.later HB3.out) HS0.out hv HB3.out HF.out.1 HF.out.2.1 HF.out.2.2 HX.out.1 HX.out.2 h0) (And.intro (svw_keep (HT.out.later HB3.out) HS0.out hv.on HBp.out (by decide) (by decide)) (hv.ss.each ⟨n, q, K, P⟩ (by simp))))
  go_wp2_with (first
    | (go_at_call 109; rw [← hw3]; (with_reducible refine Calls.mono HSave.out ?_); rintro e w4 ⟨sv4, q, rfl, hv⟩; obtain ⟨hi, hbp, hq⟩ := HSt.out w4 sv4 q hv; have z3 := hi.b3.cell 0; have z7 := hi.b7.cell 0; have HI := hide hi; have HBq := hide (hbp.later (below_alloc w4 (.cells #[.int .i64 1] 3))); have HQ := hide hq; have HSz := hide hv.on.size; clear hv hi hbp hq))
  have o1 := tr_lt (HT.out.later HB3.out)
  have hW0 : w3.heap.size ≤ w4.heap.size := HSz.out
  have hW3 := HB3.out.size
  have hz9 : w4.heap.size < (w4.alloc (.cells #[.int .i64 1] 3)).heap.size := by simp
  have hgB : g < (w4.alloc (.cells #[.int .i64 1] 3)).heap.size := by obtain ⟨cur, c1, c2⟩ := HI.out.bI; exact c1.lt
  have hqB : q < (w4.alloc (.cells #[.int .i64 1] 3)).heap.size := by obtain ⟨es, cl, he⟩ := (HQ.out.1.later (below_alloc w4 (.cells #[.int .i64 1] 3))).obj; exact (Array.getElem?_eq_some_iff.1 he).1
  have HVs := hide (values_stops G (by omega) 8 Bp g cap (fun A B => B.heap[g]? = A.heap[g]?) (fun A B h => h) _ HBq.out (by obtain ⟨cur, c1, c2⟩ := HI.out.bI; exact ⟨cur, c1, c2⟩))
  clear HX HBp HS0 HF HSt HSave c3 z3 z7 hw3 HBq
  generalize hs0 : (⟨n, q, K, P⟩ : Sn) = s0 at *
  have hs0p : s0.pm = q := by rw [← hs0]
  generalize w4.alloc (.cells #[.int .i64 1] 3) = W0 at *
  have ha6 : w.heap.size ≤ w.heap.size + 1 + 1 := by omega
  generalize w4.heap.size = a7 at *
  generalize w.heap.size + 1 + 1 = a6 at *
  generalize w.heap.size + 1 = a5 at *
  refine (wpIn_wide (n := 9)).1 ?_
  refine wpIn_rangeFunc_ownH rfl (by omega) (gf := 112) (lb := #[.pointer (some ⟨Bp, 0, none⟩)]) rfl trivial (enters_of Tryz.func112 (by kernel_rfl) rfl)
    HVs.out
    (fun h h' => h'.trans h)
    (fun W l o o' hl ho _ _ => (grownBy_putObj' W l o').block _ (by have := (Array.getElem?_eq_some_iff.1 ho).1; omega) (fun e => by simp at e; omega)) (Below.refl _ _) (fun _ => rfl)
    (fun pre W => WkI sv4 w W B0 t pm n base (K + 3 * pre.length) s0 w.heap.size a5 a6 a7 Bx g G) (fun cd pre W => cd = .ret ∧ WkX w W B0 t base a6)
    (fun pre X Y row h hg hr => h.ownF hg hr (by omega) (by omega) (by omega) (by omega)) (fun cd pre X Y row h hg hr => ⟨h.1, h.2.ownF hg hr (by omega) (by omega)⟩) (by simpa using HI.out)
    (fun x a' W => ∃ u, a' = wkA w.heap.size a5 a6 a7 (G.getD x.val 0) u) (fun x a' s X Y row hs hg hr => hs) ?assign ?body ?done ?stop
  case assign =>
    intro lp pre x W Kk hI hKk
    have HKk := hide hKk
    have HI' := hide hI
    clear hKk hI
    simp only [encI]
    generalize G.getD x.val 0 = gx at *
    gi_wp2
    refine HKk.out _ _ (KeepsFrom.of_grownBy (grown_of_below (below_refl W)) (fun j e => by cases e)) rfl HI'.out ?_
    exact wk_ex rfl
  case body =>
    rintro lp pre x a' W hlp hr hI ⟨u, rfl⟩ hlen
    obtain ⟨P', K', ht, hk⟩ := hI.tr
    have HD := hide (drop1_e W Bx t pm n ht h1 (by omega) (G.getD x.val 0) (hI.bB.cell 0))
    have c5 := hI.b5.cell 0
    simp only [dropF] at c5
    have HI' := hide hI
    have Hk := hide hk
    have htW := hide ht
    have Hbs : Hid (base ≤ W.heap.size) := Nat.le_trans h0.2.2.2 (Nat.le_of_lt hI.b3.lt)
    clear hI ht hk
    simp only [wkA]
    generalize G.getD x.val 0 = gx at *
    have HBk := hide (fun w1 P1 K1 (ht1 : Tr sv4 w1 t pm n P1 K1 true) (ho : Only [t, pm] W w1) => back_e w1 t pm n base ((0 : Nat) + 1 : Int) ht1 (HI'.out.ss.tx htW.out ho) (BaK.some (i := 0) (s := s0) rfl) (by simp) (by have := HI'.out.b0; have := ho.size; have := Hbs.out; omega))
    have HAp := hide (fun w1 (ho : Only [t, pm] W w1) => And.intro (htW.out.apart ho HI'.out.b3 (by decide)) (htW.out.apart ho HI'.out.b7 (by decide)))
    have HRf := hide (fun w1 w2 P1 K1 E sv' q' (ht1 : Tr sv4 w1 t pm n P1 K1 true) (ho : Only [t, pm] W w1) (hf : FgW w1 w2 t q' s0.n base s0.P s0.K true sv4 sv' [s0] 1) (hE : E = 0 ∨ E = 2 ∨ E = 8) => wk_refused (B := W0.heap.size) HI'.out ht1 ho hf hE h0.1 h0.2.1 h0.2.2.1 (by omega) (by omega) (by omega))
    gi_wp2_with (first
      | (first | refine ⟨trivial, ?_⟩ | refine ⟨trivial, (fun h => absurd h (by decide)), ?_⟩); gi_at_call 41; refine CallsIn.mono (CallsIn.inRound _ (callsIn_wide.2 HD.out)) ?_; rintro e' w1 ⟨E, P1, K1, rfl, hE, ht1, hk1, ho⟩; have z31 := (HAp.out w1 ho).1.cell 0; have z71 := (HAp.out w1 ho).2.cell 0; have HG := hide (And.intro ht1 (And.intro hk1 ho)); have HE := hide hE; clear ht1 hk1 ho hE
      | (first | refine ⟨trivial, ?_⟩ | refine ⟨trivial, (fun h => absurd h (by decide)), ?_⟩); gi_at_call 111; refine CallsIn.mono (CallsIn.inRound _ (callsIn_wide.2 (HBk.out w1 P1 K1 HG.out.1 HG.out.2.2))) ?_; rintro e'' w2 ⟨rfl, sv', q', hq', hf⟩; have hRf := HRf.out w1 w2 P1 K1 E sv' q' HG.out.1 HG.out.2.2 hf HE.out; have f6 := hRf.1; have c6 := hRf.2.1; have HX2 := hide hRf.2.2; clear hf hq' hRf)
    · exact ⟨HX2.out.1, rfl, HX2.out.2⟩
    · obtain ⟨r1, r2, r3⟩ := wk_goes (B := W0.heap.size) HI'.out HG.out.1 Hk.out HG.out.2.1 HG.out.2.2 h0.1 h0.2.1 (by omega) (by omega)
      refine ⟨r1, r2, ?_⟩
      show WkI sv4 w w1 B0 t pm n base (K + 3 * (pre ++ [x]).length) s0 w.heap.size a5 a6 a7 Bx g G
      rw [List.length_append, List.length_singleton, Nat.mul_add, ← Nat.add_assoc]
      exact r3
  case done =>
    rintro D xs W hD rfl hI hK0
    have z6 := hI.b6.cell 0
    have f6 := hI.b6.frozen 0
    have HL := hide (fun tm hm => wk_done (tmps := tm) hI hK0 (by omega) h0.1 h0.2.2.1 (by omega) (by omega) hm)
    clear hI hK0
    go_wp2
    exact HL.out _ (by rfl)
  case stop =>
    rintro D cd pre W hD _ ⟨rfl, hx⟩ hK0
    obtain ⟨sv2, S2, q1, q2, q3⟩ := hx.lt
    obtain ⟨E, q4, q5⟩ := hx.b6
    have HL := hide (fun tm hm => wk_leave (tmps := tm) q1 q2 q3 q4 q5 hx.bel hx.b0 hK0 (by omega) h0.1 h0.2.2.1 hm (by omega))
    clear q1 q2 q3 q4 q5 hx hK0
    gi_wp2
    exact HL.out _ (by rfl)
end Go.Proofs.YthgclfhfipfknaaGreat
