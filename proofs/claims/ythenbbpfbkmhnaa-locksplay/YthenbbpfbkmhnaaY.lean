/- The walk of LocksPlay. -/
import Derived.Test.YthenbbpfbkmhnaaW
import Derived.Deep.CutRange
import Derived.Deep.CutBlock
namespace Go.Proofs.Ythenbbpfbkmhnaa
open Go.ChangeShapes Go.WideShapes Go.ChangeAt Go.RowKit
set_option linter.unusedVariables false

/-- Within a round: the step's block, and the block of the table to be stored. -/
structure MS (w wr : World) (P : Nat → Option Addr) (M0 M : Nat → Bool) (H0 H : Nat → List Int) (x : OpV) (xb vbk : Nat) (mv : Bool) (Lv : List Int) : Prop where
  ps : PS w wr P M0 M H0 H
  x : Blk wr xb x.cells.toArray 32
  v : Blk wr vbk (tcl mv Lv).toArray 29
  xlow : w.heap.size + 2 < xb ∧ w.heap.size + 2 < vbk ∧ xb ≠ vbk
  xp : ∀ a, a < 2 → xb ∉ blk1 (P a) ∧ vbk ∉ blk1 (P a)
section
variable {w wr wr' : World} {P : Nat → Option Addr} {M0 M : Nat → Bool} {H0 H : Nat → List Int} {x : OpV} {xb vbk : Nat} {mv : Bool} {Lv : List Int}
theorem MS.grown (h : MS w wr P M0 M H0 H x xb vbk mv Lv) (ho : Only [] wr wr') : MS w wr' P M0 M H0 H x xb vbk mv Lv :=
  ⟨h.ps.grown ho, ho.blk h.x (by simp), ho.blk h.v (by simp), h.xlow, h.xp⟩
theorem MS.drew (h : MS w wr P M0 M H0 H x xb vbk mv Lv) : MS w wr.drew P M0 M H0 H x xb vbk mv Lv := h.grown (Only.drew _ _)
theorem MS.store (h : MS w wr P M0 M H0 H x xb vbk mv Lv) {m2 : Bool} {L2 : List Int} (hv : Blk wr' vbk (tcl m2 L2).toArray 29) (ho : Only [vbk] wr wr') : MS w wr' P M0 M H0 H x xb vbk m2 L2 :=
  ⟨h.ps.only ho (fun k hk => by have := h.xlow; simp at hk; omega) (fun a ha k hk hm => (h.xp a ha).2 (by simp at hm; rwa [hm] at hk)), ho.blk h.x (by have := h.xlow; simp; omega), hv, h.xlow, h.xp⟩
theorem MS.turn (h : MS w wr P M0 M H0 H x xb vbk mv Lv) {a : Nat} (ha : a < 2) {L : List Int} (ho : Only (blk1 (P a)) wr wr') (ht : Tab wr' (P a) (M a) L) : MS w wr' P M0 M H0 (up H a L) x xb vbk mv Lv :=
  ⟨h.ps.turn ha ho ht, ho.blk h.x (h.xp a ha).1, ho.blk h.v (h.xp a ha).2, h.xlow, h.xp⟩
theorem MS.keep (h : MS w wr P M0 M H0 H x xb vbk mv Lv) {a : Nat} {m : Bool} {L : List Int} {p : Option Addr} (ha : a < 2 ∧ M0 a = m ∧ H0 a = L ∧ P a = p) (c : True) :
    wr.rangeAt (w.heap.size + 2) (a * 9) (tcl m L) ∧ wr.cell? ⟨w.heap.size + 1, a, none⟩ = some (.pointer p) ∧ wr.cell? ⟨xb, 2, none⟩ = some (.int .i64 x.c) ∧ wr.cell? ⟨xb, 3, none⟩ = some (.int .i64 x.l) := by
  obtain ⟨ha, rfl, rfl, rfl⟩ := ha
  exact ⟨(h.ps.vb a ha).1, h.ps.ptr ha, (h.x.cell 2).trans rfl, (h.x.cell 3).trans rfl⟩
end

def z18 : Array Value := (tcl false h0 ++ tcl false h0).toArray
def v18 : Array Value := (tcl true h0 ++ tcl false h0).toArray
theorem v18_one : v18.all (·.oneCell') = true := all_oneCell_toArray (fun v hv => by rcases List.mem_append.1 hv with h | h; exact tcl_one _ _ v h; exact tcl_one _ _ v h)
theorem info30 : (Try.prog.info? 30).map (·.size) = some 18 := by kernel_rfl
theorem info26 : (Try.prog.info? 26).map (·.size) = some 2 := by kernel_rfl
theorem at30S {P : Program} {ops : Array Oper} {Q : Exit → Act → World → Prop} {d : Option Tmp} {x y : Operand} {ty : TypeId} {pos : String} {af : Array Edge} {gd : Option (Nat × Bool)} {rest : List Oper} {a : Act} {w : World} (h : wpList P ops Q ({ dst := d, op := .store 30 x y, type := ty, pos := pos, after := af, guard := gd } :: rest) a w) : wpList P ops Q ({ dst := d, op := .store 30 x y, type := ty, pos := pos, after := af, guard := gd } :: rest) a w := h
theorem at26S {P : Program} {ops : Array Oper} {Q : Exit → Act → World → Prop} {d : Option Tmp} {x y : Operand} {ty : TypeId} {pos : String} {af : Array Edge} {gd : Option (Nat × Bool)} {rest : List Oper} {a : Act} {w : World} (h : wpList P ops Q ({ dst := d, op := .store 26 x y, type := ty, pos := pos, after := af, guard := gd } :: rest) a w) : wpList P ops Q ({ dst := d, op := .store 26 x y, type := ty, pos := pos, after := af, guard := gd } :: rest) a w := h
theorem wp_storeB {ops : Array Oper} {rest : List Oper} {o : Oper} {a : Act} {Q : Exit → Act → World → Prop} {w : World} {g : Nat} {t : TypeId} {c z : Array Value} (hi : (Try.prog.info? t).map (·.size) = some c.size) (hs : c.size = z.size) (h1 : c.all (·.oneCell') = true) (hg : Blk w g z t) (x y : Operand)
    (hgd : o.guard = none) (ho : o.op = .store t x y) (hx : a.eval x = .pointer (some ⟨g, 0, none⟩)) (hy : a.eval y = .agg c)
    (hk : ∀ W', Blk W' g c t → Only [g] w W' → wpList Try.prog ops Q rest (a.put o.dst undef) W') : wpList Try.prog ops Q (o :: rest) a w :=
  wpList_store_row hgd t x y ho g c hx hy t z hg hi hs.symm h1
    (hk _ (setRow_heap w g _ _ _ _ hg) ⟨rfl, rfl, rfl, by simp [World.setRow], fun k _ hk => by simp only [World.setRow]; rw [Array.getElem?_modify, if_neg (fun e => hk (by simp [e]))]⟩)
def P0 (b : Nat) : Nat → Option Addr := up (fun _ => none) 0 (some ⟨b, 0, none⟩)
def B0 : Nat → Bool := up (fun _ => false) 0 true
theorem start_ps {w W : World} (hT : TB W w.heap.size h0) (h1 : Blk W (w.heap.size + 1) #[.pointer (some ⟨w.heap.size, 0, none⟩), .pointer none] 26) (h2 : Blk W (w.heap.size + 2) v18 30) (hb : Below w.heap.size w W) : PS w W (P0 w.heap.size) B0 B0 (fun _ => h0) (fun _ => h0) := by
  refine ⟨h1, fun a ha => ⟨?_, rfl⟩, fun a ha j hj => ⟨?_, h2.frozen _⟩, fun a ha => ?_, fun a ha => ?_, ?_, hb⟩
  · intro j v hv
    rw [h2.cell]
    have hj : j < 9 := by have := (List.getElem?_eq_some_iff.1 hv).1; rwa [tcl_length] at this
    rcases two_cases ha with rfl | rfl
    · rw [Nat.zero_mul, Nat.zero_add]
      show (tcl true h0 ++ tcl false h0).toArray[j]? = some v
      rw [List.getElem?_toArray, List.getElem?_append_left (by rw [tcl_length]; exact hj)]
      exact hv
    · show (tcl true h0 ++ tcl false h0).toArray[1 * 9 + j]? = some v
      rw [List.getElem?_toArray, List.getElem?_append_right (by rw [tcl_length]; show 9 ≤ 1 * 9 + j; omega), tcl_length]
      show (tcl false h0)[1 * 9 + j - 9]? = some v
      rw [show 1 * 9 + j - 9 = j by omega]
      exact hv
  · rw [h2.cell, Array.getElem?_eq_getElem (by show a * 9 + j < 18; omega)]
    rfl
  · rcases two_cases ha with rfl | rfl
    · exact .inr ⟨_, rfl, rfl, rfl, hT⟩
    · exact .inl ⟨rfl, rfl, rfl⟩
  · rcases two_cases ha with rfl | rfl
    · intro k hk
      simp [P0, up, blk1] at hk
      omega
    · intro k hk
      simp [P0, up, blk1] at hk
  · intro k hk
    simp [P0, up, blk1]

theorem PS.same {w wr : World} {P : Nat → Option Addr} {M0 M : Nat → Bool} {H0 H : Nat → List Int} (h : PS w wr P M0 M H0 H) (he : ∀ b, b < 2 → M0 b = M b ∧ H0 b = H b) : PS w wr P M M H H :=
  ⟨h.tb, fun a ha => by rw [← (he a ha).1, ← (he a ha).2]; exact h.vb a ha, h.vt, h.tab, h.low, h.ne, h.bel⟩
theorem MS.home {w wr : World} {P : Nat → Option Addr} {M0 M : Nat → Bool} {H0 H : Nat → List Int} {x : OpV} {xb vbk : Nat} {a : Nat} (h : MS w wr P M0 M H0 H x xb vbk (M a) (H a)) (ha : a < 2) (he : ∀ b, b < 2 → b ≠ a → M0 b = M b ∧ H0 b = H b) :
    MS w (wr.setCells (w.heap.size + 2) (a * 9) (tcl (M a) (H a))) P M M H H x xb vbk (M a) (H a) := by
  have ho := setCells_only (w.heap.size + 2) (tcl (M a) (H a)) (a * 9) wr
  have h1 := (h.ps.put ha (m := M a) (L := H a) ((h.ps.tab a ha).len)).same (fun b hb => by
    by_cases e : b = a
    · subst e; rw [up_same, up_same]; exact ⟨rfl, rfl⟩
    · rw [up_other _ _ e, up_other _ _ e]; exact he b hb e)
  exact ⟨h1, ho.blk h.x (by have := h.xlow; simp; omega), ho.blk h.v (by have := h.xlow; simp; omega), h.xlow, h.xp⟩
theorem ms_start {w wr W5 W6 : World} {P : Nat → Option Addr} {M : Nat → Bool} {H : Nat → List Int} (h : PS w wr P M M H H) {x : OpV} {m : Bool} {L : List Int} (hx : Blk W5 wr.heap.size x.cells.toArray 32) (ho : Only [] wr W5) (hv : Blk W6 W5.heap.size (tcl m L).toArray 29) (ho6 : Only [] W5 W6) : MS w W6 P M M H H x wr.heap.size W5.heap.size m L := by
  have h1 := h.sizes
  have h2 := hx.lt
  refine ⟨(h.grown ho).grown ho6, ho6.blk hx (by simp), hv, ⟨h1, by omega, by omega⟩, fun a ha => ⟨fun hm => ?_, fun hm => ?_⟩⟩
  · have := (h.tab a ha).lt _ hm; omega
  · have := (h.tab a ha).lt _ hm; omega
theorem MS.turn2 {w wr wr' : World} {P : Nat → Option Addr} {M0 M : Nat → Bool} {H0 H : Nat → List Int} {x : OpV} {xb vbk : Nat} {mv : Bool} {Lv : List Int} (h : MS w wr P M0 M H0 H x xb vbk mv Lv) {a : Nat} {m : Bool} {L L2 : List Int} {p : Option Addr} (ha : a < 2 ∧ M a = m ∧ H a = L ∧ P a = p) (ho : Only (blk1 p) wr wr') (ht : Tab wr' p m L2) : MS w wr' P M0 M H0 (up H a L2) x xb vbk mv Lv := by
  obtain ⟨ha, rfl, rfl, rfl⟩ := ha
  exact h.turn ha ho ht
theorem MS.point {w wr wr' : World} {P : Nat → Option Addr} {M0 M : Nat → Bool} {H0 H : Nat → List Int} {x : OpV} {xb vbk : Nat} {mv : Bool} {Lv : List Int} (h : MS w wr P M0 M H0 H x xb vbk mv Lv) {b : Nat} (hb : b < 2) {q : Option Addr} {m : Bool} {L : List Int} (ho : Only [] wr wr') (ht : Tab wr' q m L) (hq : ∀ k ∈ blk1 q, wr.heap.size ≤ k) :
    MS w (wr'.setCell ⟨w.heap.size + 1, b, none⟩ (.pointer q)) (up P b q) M0 (up M b m) H0 (up H b L) x xb vbk mv Lv := by
  have h1 := h.ps.sizes
  have h2 := h.x.lt
  have h3 := h.v.lt
  have h5 := h.xlow
  have h4 := Only.setCell wr' ⟨w.heap.size + 1, b, none⟩ (.pointer q)
  refine ⟨(h.ps.grown ho).point hb ht (fun k hk => by have := hq k hk; omega) (fun c hc _ k hk hm => by have := (h.ps.tab c hc).lt k hk; have := hq k hm; omega), h4.blk (ho.blk h.x (by simp)) (by simp; omega), h4.blk (ho.blk h.v (by simp)) (by simp; omega), h5, fun c hc => ?_⟩
  by_cases e : c = b
  · subst e
    rw [up_same]
    exact ⟨fun hm => by have := hq _ hm; omega, fun hm => by have := hq _ hm; omega⟩
  · rw [up_other _ _ e]
    exact h.xp c hc
theorem MS.pnew {w wr wr' : World} {P : Nat → Option Addr} {M0 M : Nat → Bool} {H0 H : Nat → List Int} {x : OpV} {xb vbk : Nat} {mv : Bool} {Lv : List Int} (h : MS w wr P M0 M H0 H x xb vbk mv Lv) {b : Nat} (hb : b < 2) (ho : Only [] wr wr') (ht : TB wr' wr.heap.size h0) :
    MS w (wr'.setCell ⟨w.heap.size + 1, b, none⟩ (.pointer (some ⟨wr.heap.size, 0, none⟩))) (up P b (some ⟨wr.heap.size, 0, none⟩)) M0 (up M b true) H0 (up H b h0) x xb vbk mv Lv :=
  h.point hb ho (.inr ⟨_, rfl, rfl, rfl, ht⟩) (by simp [blk1])
theorem MS.put {w wr : World} {P : Nat → Option Addr} {M0 M : Nat → Bool} {H0 H : Nat → List Int} {x : OpV} {xb vbk : Nat} {mv : Bool} {Lv : List Int} (h : MS w wr P M0 M H0 H x xb vbk mv Lv) {b : Nat} (hb : b < 2) {m : Bool} {L : List Int} (h8 : L.length = 8) : MS w (wr.setCells (w.heap.size + 2) (b * 9) (tcl m L)) P (up M0 b m) M (up H0 b L) H x xb vbk mv Lv := by
  have ho := setCells_only (w.heap.size + 2) (tcl m L) (b * 9) wr
  exact ⟨h.ps.put hb h8, ho.blk h.x (by have := h.xlow; simp; omega), ho.blk h.v (by have := h.xlow; simp; omega), h.xlow, h.xp⟩
theorem wp_load29G {ops : Array Oper} {rest : List Oper} {o : Oper} {a : Act} {Q : Exit → Act → World → Prop} {w : World} {g k : Nat} {m : Bool} {h : List Int} (h8 : h.length = 8) (hg : w.rangeAt g k (tcl m h)) (x : Operand)
    (hw : Region.wanted o (yielded ops a.tmps) = true) (ho : o.op = .load 29 x) (hx : a.eval x = .pointer (some ⟨g, k, none⟩)) (hk : wpList Try.prog ops Q rest (a.put o.dst (.agg (tcl m h).toArray)) w) : wpList Try.prog ops Q (o :: rest) a w := by
  obtain ⟨d, hd, hr⟩ := u29
  refine wpList_step fun K hK => ?_
  rw [if_pos hw]
  exact wp_load_mid 29 x ho g k hx (tcl m h) d hg hd hr (size29 h8) (hK _ _ hk)
theorem u29' : Try.prog.underlying 29 = some (Classical.choose u29) ∧ (Classical.choose u29).isRow = true := Classical.choose_spec u29
theorem new_eq (w : World) : Calls Try.prog 6 #[] w fun e w' => e = .returned (.pointer (some ⟨w.heap.size, 0, none⟩)) ∧ w.alloc (.cells #[.bool true, .int .i64 0, .int .i64 0, .int .i64 0, .int .i64 0, .int .i64 0, .int .i64 0, .int .i64 0, .int .i64 0] 46) = w' := by
  go_enter Try.func6, Try.ntmps6
  go_wp2
  go_ret
  exact ⟨rfl, rfl⟩
theorem start_z (w : World) :
    Blk (((w.alloc (.cells #[.bool true, .int .i64 0, .int .i64 0, .int .i64 0, .int .i64 0, .int .i64 0, .int .i64 0, .int .i64 0, .int .i64 0] 46)).alloc (.cells #[.pointer (some ⟨w.heap.size, 0, none⟩), .pointer none] 26)).alloc (.cells #[.bool false, .int .i64 0, .int .i64 0, .int .i64 0, .int .i64 0, .int .i64 0, .int .i64 0, .int .i64 0, .int .i64 0, .bool false, .int .i64 0, .int .i64 0, .int .i64 0, .int .i64 0, .int .i64 0, .int .i64 0, .int .i64 0, .int .i64 0] 30)) (w.heap.size + 2) z18 30 ∧
    TB (((w.alloc (.cells #[.bool true, .int .i64 0, .int .i64 0, .int .i64 0, .int .i64 0, .int .i64 0, .int .i64 0, .int .i64 0, .int .i64 0] 46)).alloc (.cells #[.pointer (some ⟨w.heap.size, 0, none⟩), .pointer none] 26)).alloc (.cells #[.bool false, .int .i64 0, .int .i64 0, .int .i64 0, .int .i64 0, .int .i64 0, .int .i64 0, .int .i64 0, .int .i64 0, .bool false, .int .i64 0, .int .i64 0, .int .i64 0, .int .i64 0, .int .i64 0, .int .i64 0, .int .i64 0, .int .i64 0] 30)) w.heap.size h0 ∧
    Blk (((w.alloc (.cells #[.bool true, .int .i64 0, .int .i64 0, .int .i64 0, .int .i64 0, .int .i64 0, .int .i64 0, .int .i64 0, .int .i64 0] 46)).alloc (.cells #[.pointer (some ⟨w.heap.size, 0, none⟩), .pointer none] 26)).alloc (.cells #[.bool false, .int .i64 0, .int .i64 0, .int .i64 0, .int .i64 0, .int .i64 0, .int .i64 0, .int .i64 0, .int .i64 0, .bool false, .int .i64 0, .int .i64 0, .int .i64 0, .int .i64 0, .int .i64 0, .int .i64 0, .int .i64 0, .int .i64 0] 30)) (w.heap.size + 1) #[.pointer (some ⟨w.heap.size, 0, none⟩), .pointer none] 26 ∧
    Below w.heap.size w (((w.alloc (.cells #[.bool true, .int .i64 0, .int .i64 0, .int .i64 0, .int .i64 0, .int .i64 0, .int .i64 0, .int .i64 0, .int .i64 0] 46)).alloc (.cells #[.pointer (some ⟨w.heap.size, 0, none⟩), .pointer none] 26)).alloc (.cells #[.bool false, .int .i64 0, .int .i64 0, .int .i64 0, .int .i64 0, .int .i64 0, .int .i64 0, .int .i64 0, .int .i64 0, .bool false, .int .i64 0, .int .i64 0, .int .i64 0, .int .i64 0, .int .i64 0, .int .i64 0, .int .i64 0, .int .i64 0] 30)) := by
  refine ⟨?_, ?_, ?_, ?_⟩
  · have := Blk.new ((w.alloc (.cells (tcl true h0).toArray 46)).alloc (.cells #[.pointer (some ⟨w.heap.size, 0, none⟩), .pointer none] 26)) z18 30
    rw [show ((w.alloc (.cells (tcl true h0).toArray 46)).alloc (.cells #[.pointer (some ⟨w.heap.size, 0, none⟩), .pointer none] 26)).heap.size = w.heap.size + 2 by simp] at this
    exact this
  · exact (Only.alloc _ _ []).blk ((Only.alloc _ _ []).blk (Blk.new w (tcl true h0).toArray 46) (by simp)) (by simp)
  · refine (Only.alloc _ _ []).blk ?_ (by simp)
    have := Blk.new (w.alloc (.cells (tcl true h0).toArray 46)) #[.pointer (some ⟨w.heap.size, 0, none⟩), .pointer none] 26
    rw [show (w.alloc (.cells (tcl true h0).toArray 46)).heap.size = w.heap.size + 1 by simp] at this
    exact this
  · exact (((Only.alloc _ _ []).trans (Only.alloc _ _ [])).trans (Only.alloc _ _ [])).below (Nat.le_refl _) (by simp)

set_option maxHeartbeats 8000000 in
set_option maxRecDepth 20000 in
theorem play_walk (w : World) (p : Option Addr) (len cap : Nat) (X : Nat → OpV) (hp : OpP w p len X) :
    Calls Try.prog 3 #[.slice p len cap] w fun e w' => e = .returned (.bool true) ∧ Below w.heap.size w w' := by
  have HP := hide hp
  have HAw := hide awake_any
  have HNew := hide new_eq
  clear hp
  by_cases hlen : 200 < len
  · have l1 : (200 : Int) < (len : Int) := by omega
    go_enter Try.func3, Try.ntmps3
    go_wp2_with (go_at_call 5; with_reducible refine Calls.mono (HAw.out _) ?_; rintro e w4 ⟨rfl, ho⟩; have HO := hide ho; clear ho)
    go_ret
    exact ⟨rfl, HO.out.below (Nat.le_refl _) (by simp)⟩
  · have l1 : ¬ (200 : Int) < (len : Int) := by omega
    have HLn := hide hlen
    clear hlen
    go_enter Try.func3, Try.ntmps3
    have HZ3 := hide (start_z w)
    have HI3 := hide info30
    go_wp2_with (first
      | (go_at_call 6; with_reducible refine Calls.mono (HNew.out _) ?_; rintro e w4 ⟨rfl, rfl⟩)
      | ((with_reducible refine at30S ?_); refine wp_storeB (c := v18) HI3.out (by rfl) v18_one HZ3.out.1 _ _ (by rfl) (by rfl) (by rfl) (by rfl) ?_; intro W3 hb3 ho3; have HS := hide (start_ps (ho3.blk HZ3.out.2.1 (by simp)) (ho3.blk HZ3.out.2.2.1 (by simp)) hb3 (HZ3.out.2.2.2.trans (ho3.below HZ3.out.2.2.2.size (by simp)))); clear hb3 ho3))
    go_loopw [5] (fun iv wr => ∃ (k : Nat) (P : Nat → Option Addr) (M : Nat → Bool) (H : Nat → List Int), k ≤ len ∧ iv = .int .i64 (k : Int) ∧ PS w wr P M M H H) (fun iv _ => len - (intOf iv).toNat)
    case atStart => exact ⟨0, _, _, _, Nat.zero_le _, rfl, HS.out⟩
    case round =>
      obtain ⟨k, P, M, H, hk, rfl, hS⟩ := hrel
      have HR := hide hS
      clear hS HS HZ3 HI3
      by_cases hlt : k < len
      · obtain ⟨g, o, rfl, hc⟩ := (HP.out.later HR.out.bel) (by omega)
        obtain ⟨x, hx⟩ : ∃ x, x = X k := ⟨_, rfl⟩
        have HRx := hide (hc k hlt)
        rw [← hx] at HRx
        have l2 : (k : Int) < (len : Int) := by omega
        have l0 : (0 : Int) ≤ (k : Int) := by omega
        have hw1 : IntKind.i64.wrap ((k : Int) + 1) = (k : Int) + 1 := by have := HLn.out; rw [IntKind.wrap_i64]; omega
        have HK := hide hlt
        obtain ⟨a, ha⟩ : ∃ a : Nat, (a : Int) = x.a % 2 := ⟨(x.a % 2).toNat, by omega⟩
        have HAt := hide (show a < 2 by omega)
        have hand : bits .and .i64 x.a 1 = (a : Int) := by rw [i64_and1, ha]
        have la0 : (0 : Int) ≤ (a : Int) := by omega
        have la1 : (a : Int) < 2 := by omega
        obtain ⟨m, hm⟩ : ∃ m, M a = m := ⟨_, rfl⟩
        obtain ⟨L, hL⟩ : ∃ L, H a = L := ⟨_, rfl⟩
        obtain ⟨p, hpp⟩ : ∃ p, P a = p := ⟨_, rfl⟩
        have HA2 := hide (And.intro HAt.out (And.intro hm (And.intro hL hpp)))
        have HX : Hid True := trivial
        have HL := hide (show L.length = 8 by rw [← hL]; exact (HR.out.tab a HAt.out).len)
        have HTb := hide (HR.out.tab a HAt.out)
        have HRg := hide (HR.out.vb a HAt.out).1
        rw [hm, hL] at HRg
        rw [hm, hL, hpp] at HTb
        have U29 := hide u29'
        have HZ := hide h0_length
        have HNz := hide (fun V : World => Blk.new V (tcl false h0).toArray 29)
        rw [z_eq] at HNz
        clear hc hx ha hm hL hpp hlt
        go_upto_block 2 with (first
          | ((with_reducible refine at32L ?_); refine wp_load32 HRx.out _ (by rfl) (by rfl) (by rfl) ?_)
          | ((with_reducible refine at32S ?_); refine wp_store32 (op_new wr) _ _ (by rfl) (by rfl) (by rfl) (by rfl) ?_; intro W5 hN5 hO5; have HN5 := hide hN5; have HO5 := hide ((Only.alloc wr _ []).andThen hO5 (fun j hj => .inr (by simp at hj; omega))); have HRg5 := hide (range_only HRg.out HO5.out (by simp)); have cx1 := (Blk.cell hN5 1); have cx0 := Blk.cell hN5 0; simp [OpV.cells] at cx1 cx0; clear hN5 hO5)
          | ((with_reducible refine at29L ?_); refine wp_load29 HL.out HRg5.out _ (by rfl) (by rfl) (by rfl) ?_)
          | ((with_reducible refine at29S ?_); refine wp_store29 HL.out HZ.out (HNz.out _) _ _ (by rfl) (by rfl) (by rfl) (by rfl) ?_; intro W6 hN6 hO6; have HM := hide (ms_start HR.out HN5.out HO5.out hN6 ((Only.alloc W5 _ []).andThen hO6 (fun j hj => .inr (by simp at hj; omega)))); have cy0 := (HM.out.x.cell 0); simp [OpV.cells] at cy0; clear hN6 hO6 HN5 HRg5 cx0 cx1))
        obtain ⟨xb, hxb⟩ : ∃ xb, xb = wr.heap.size := ⟨_, rfl⟩
        obtain ⟨vb, hvb⟩ : ∃ vb, vb = W5.heap.size := ⟨_, rfl⟩
        rw [← hxb, ← hvb] at HM ⊢
        rw [← hxb] at cy0
        clear hxb hvb HO5 HRx HRg HR
        go_cut [8, 9] from 37 to 100 (fun e f W => ∃ (E : Int) (P' : Nat → Option Addr) (M0' M' : Nat → Bool) (H0' H' : Nat → List Int), e = .int .i64 E ∧ f = .int .i64 E ∧ MS w W P' M0' M' H0' H' x xb vb (M' a) (H' a) ∧ ∀ b, b < 2 → b ≠ a → M0' b = M' b ∧ H0' b = H' b)
        case rest =>
          obtain ⟨E, P', M0', M', H0', H', rfl, rfl, hMS, hoth⟩ := hcut
          have HM8 := hide (hMS.home HAt.out hoth)
          have HMv := hide hMS
          have HVt := hide (hMS.ps.vt a HAt.out)
          clear hMS hoth
          obtain ⟨m', hm'⟩ : ∃ m', M' a = m' := ⟨_, rfl⟩
          obtain ⟨L', hL'⟩ : ∃ L', H' a = L' := ⟨_, rfl⟩
          obtain ⟨p', hp'⟩ : ∃ p', P' a = p' := ⟨_, rfl⟩
          have HL8 := hide (show L'.length = 8 by rw [← hL']; exact (HM8.out.ps.tab a HAt.out).len)
          have HA3 := hide (And.intro HAt.out (And.intro hm' (And.intro hL' hp')))
          have HTb8 := hide (HM8.out.ps.drew.tab a HAt.out)
          rw [hm', hL', hp'] at HTb8
          rw [hm', hL'] at HM8 HMv
          have HS8 := hide (HM8.out.drew.keep HA3.out HX.out)
          have HLk := hide (look_tab _ _ _ _ HTb8.out x.c x.l)
          have b0 : (E != E) = false := by simp
          clear hm' hL' hp' HM HTb HA2 HL HNz HZ cy0
          go_upto_region 26 with (first
            | ((with_reducible refine at29L ?_); refine wp_load29 HL8.out HMv.out.v.range _ (by rfl) (by rfl) (by rfl) ?_)
            | ((with_reducible refine at29S ?_); refine wp_store29m HL8.out HVt.out _ _ (by rfl) (by rfl) (by rfl) (by rfl) ?_))
          refine wp_region_held_drew (S := fun V => V.rangeAt (w.heap.size + 2) (a * 9) (tcl m' L') ∧ V.cell? ⟨w.heap.size + 1, a, none⟩ = some (.pointer p') ∧ V.cell? ⟨xb, 2, none⟩ = some (.int .i64 x.c) ∧ V.cell? ⟨xb, 3, none⟩ = some (.int .i64 x.l)) (by kernel_rfl) (HS8.out) (fun hHeld => ?_)
          refine wpAnyH_take (i := 0) (v := .int .i64 E) rfl (by kernel_rfl) (by kernel_rfl) (by kernel_rfl) (fun _ _ _ h => h) (Or.inl ⟨by rfl, fun V hV => by (obtain ⟨f1, f2, f3, f4⟩ := hV; go_simp)⟩) hHeld ?_
          try simp only [Act.put, List.getElem_toArray, List.getElem_cons_zero, List.setIfInBounds_toArray, List.set_cons_zero, List.set_cons_succ]
          refine wpAnyH_take (i := 1) (v := .int .i64 E) rfl (by kernel_rfl) (by kernel_rfl) (by kernel_rfl) (fun _ _ _ h => h) (Or.inl ⟨by rfl, fun V hV => by (obtain ⟨f1, f2, f3, f4⟩ := hV; go_simp)⟩) hHeld ?_
          try simp only [Act.put, List.getElem_toArray, List.getElem_cons_succ, List.getElem_cons_zero, List.setIfInBounds_toArray, List.set_cons_zero, List.set_cons_succ]
          refine wpAnyH_take (i := 2) (v := .bool false) rfl (by kernel_rfl) (by kernel_rfl) (by kernel_rfl) (fun _ _ _ h => h) (Or.inl ⟨by rfl, fun V hV => by (obtain ⟨f1, f2, f3, f4⟩ := hV; go_simp)⟩) hHeld ?_
          try simp only [Act.put, List.getElem_toArray, List.getElem_cons_succ, List.getElem_cons_zero, List.setIfInBounds_toArray, List.set_cons_zero, List.set_cons_succ]
          refine wpAnyH_take (i := 3) (v := .bool false) rfl (by kernel_rfl) (by kernel_rfl) (by kernel_rfl) (fun _ _ _ h => h) (Or.inl ⟨by rfl, fun V hV => by (obtain ⟨f1, f2, f3, f4⟩ := hV; go_simp)⟩) hHeld ?_
          try simp only [Act.put, List.getElem_toArray, List.getElem_cons_succ, List.getElem_cons_zero, List.setIfInBounds_toArray, List.set_cons_zero, List.set_cons_succ]
          refine wpAnyH_take (i := 4) (v := .int .i64 (a : Int)) rfl (by kernel_rfl) (by kernel_rfl) (by kernel_rfl) (fun _ _ _ h => h) (Or.inl ⟨by rfl, fun V hV => by (obtain ⟨f1, f2, f3, f4⟩ := hV; go_simp)⟩) hHeld ?_
          try simp only [Act.put, List.getElem_toArray, List.getElem_cons_succ, List.getElem_cons_zero, List.setIfInBounds_toArray, List.set_cons_zero, List.set_cons_succ]
          refine wpAnyH_take (i := 5) (v := .pointer (some ⟨w.heap.size + 1, a, none⟩)) rfl (by kernel_rfl) (by kernel_rfl) (by kernel_rfl) (fun _ _ _ h => h) (Or.inl ⟨by rfl, fun V hV => by (obtain ⟨f1, f2, f3, f4⟩ := hV; go_simp)⟩) hHeld ?_
          try simp only [Act.put, List.getElem_toArray, List.getElem_cons_succ, List.getElem_cons_zero, List.setIfInBounds_toArray, List.set_cons_zero, List.set_cons_succ]
          refine wpAnyH_take (i := 6) (v := .pointer p') rfl (by kernel_rfl) (by kernel_rfl) (by kernel_rfl) (fun _ _ _ h => h) (Or.inl ⟨by rfl, fun V hV => by (obtain ⟨f1, f2, f3, f4⟩ := hV; go_simp)⟩) hHeld ?_
          try simp only [Act.put, List.getElem_toArray, List.getElem_cons_succ, List.getElem_cons_zero, List.setIfInBounds_toArray, List.set_cons_zero, List.set_cons_succ]
          refine wpAnyH_take (i := 7) (v := .int .i64 (a : Int)) rfl (by kernel_rfl) (by kernel_rfl) (by kernel_rfl) (fun _ _ _ h => h) (Or.inl ⟨by rfl, fun V hV => by (obtain ⟨f1, f2, f3, f4⟩ := hV; go_simp)⟩) hHeld ?_
          try simp only [Act.put, List.getElem_toArray, List.getElem_cons_succ, List.getElem_cons_zero, List.setIfInBounds_toArray, List.set_cons_zero, List.set_cons_succ]
          refine wpAnyH_take (i := 8) (v := .pointer (some ⟨w.heap.size + 2, a * 9, none⟩)) rfl (by kernel_rfl) (by kernel_rfl) (by kernel_rfl) (fun _ _ _ h => h) (Or.inl ⟨by rfl, fun V hV => by (obtain ⟨f1, f2, f3, f4⟩ := hV; go_simp)⟩) hHeld ?_
          try simp only [Act.put, List.getElem_toArray, List.getElem_cons_succ, List.getElem_cons_zero, List.setIfInBounds_toArray, List.set_cons_zero, List.set_cons_succ]
          refine wpAnyH_take (i := 9) (v := .agg (tcl m' L').toArray) rfl (by kernel_rfl) (by kernel_rfl) (by kernel_rfl) (fun _ _ _ h => h) (yieldsIf_load_mid (by rfl) _ _ rfl _ _ rfl _ _ (fun V hV => hV.1) U29.out.1 U29.out.2 (size29 HL8.out)) hHeld ?_
          try simp only [Act.put, List.getElem_toArray, List.getElem_cons_succ, List.getElem_cons_zero, List.setIfInBounds_toArray, List.set_cons_zero, List.set_cons_succ]
          refine wpAnyH_take (i := 10) (v := .pointer (some ⟨xb, 2, none⟩)) rfl (by kernel_rfl) (by kernel_rfl) (by kernel_rfl) (fun _ _ _ h => h) (Or.inl ⟨by rfl, fun V hV => by (obtain ⟨f1, f2, f3, f4⟩ := hV; go_simp)⟩) hHeld ?_
          try simp only [Act.put, List.getElem_toArray, List.getElem_cons_succ, List.getElem_cons_zero, List.setIfInBounds_toArray, List.set_cons_zero, List.set_cons_succ]
          refine wpAnyH_take (i := 11) (v := .int .i64 x.c) rfl (by kernel_rfl) (by kernel_rfl) (by kernel_rfl) (fun _ _ _ h => h) (Or.inl ⟨by rfl, fun V hV => by (obtain ⟨f1, f2, f3, f4⟩ := hV; go_simp)⟩) hHeld ?_
          try simp only [Act.put, List.getElem_toArray, List.getElem_cons_succ, List.getElem_cons_zero, List.setIfInBounds_toArray, List.set_cons_zero, List.set_cons_succ]
          refine wpAnyH_take (i := 12) (v := .pointer (some ⟨xb, 3, none⟩)) rfl (by kernel_rfl) (by kernel_rfl) (by kernel_rfl) (fun _ _ _ h => h) (Or.inl ⟨by rfl, fun V hV => by (obtain ⟨f1, f2, f3, f4⟩ := hV; go_simp)⟩) hHeld ?_
          try simp only [Act.put, List.getElem_toArray, List.getElem_cons_succ, List.getElem_cons_zero, List.setIfInBounds_toArray, List.set_cons_zero, List.set_cons_succ]
          refine wpAnyH_take (i := 13) (v := .int .i64 x.l) rfl (by kernel_rfl) (by kernel_rfl) (by kernel_rfl) (fun _ _ _ h => h) (Or.inl ⟨by rfl, fun V hV => by (obtain ⟨f1, f2, f3, f4⟩ := hV; go_simp)⟩) hHeld ?_
          try simp only [Act.put, List.getElem_toArray, List.getElem_cons_succ, List.getElem_cons_zero, List.setIfInBounds_toArray, List.set_cons_zero, List.set_cons_succ]
          refine wpAnyH_ready (rs := [14]) (by kernel_rfl) (by simp) ?_
          refine AllReadyH.cons rfl (fun K hK => ?_) AllReadyH.nil
          go_simp
          go_at_call 12; with_reducible refine Calls.mono HLk.out ?_; rintro e w9 ⟨rfl, ho9⟩; have HM9 := hide (HM8.out.drew.grown ho9); clear ho9
          go_wp2_with fail
          refine hK.out _ _ (HM9.out.keep HA3.out HX.out) (fun hHeld => ?_)
          clear hK K
          try simp only [Act.put, List.getElem_toArray, List.getElem_cons_succ, List.getElem_cons_zero, List.setIfInBounds_toArray, List.set_cons_zero, List.set_cons_succ]
          refine wpAnyH_take (i := 15) (v := .bool false) rfl (by kernel_rfl) (by kernel_rfl) (by kernel_rfl) (fun _ _ _ h => h) (Or.inl ⟨by rfl, fun V hV => by (obtain ⟨f1, f2, f3, f4⟩ := hV; go_simp)⟩) hHeld ?_
          try simp only [Act.put, List.getElem_toArray, List.getElem_cons_succ, List.getElem_cons_zero, List.setIfInBounds_toArray, List.set_cons_zero, List.set_cons_succ]
          refine wpAnyH_take (i := 16) (v := .bool false) rfl (by kernel_rfl) (by kernel_rfl) (by kernel_rfl) (fun _ _ _ h => h) (Or.inl ⟨by rfl, fun V hV => by (obtain ⟨f1, f2, f3, f4⟩ := hV; go_simp)⟩) hHeld ?_
          try simp only [Act.put, List.getElem_toArray, List.getElem_cons_succ, List.getElem_cons_zero, List.setIfInBounds_toArray, List.set_cons_zero, List.set_cons_succ]
          refine wpAnyH_done (by kernel_rfl) ?_ _
          go_wp2
          refine ⟨⟨k + 1, P', M', H', HK.out, rfl, HM9.out.ps⟩, ?_⟩
          simp only [intOf]; have := HK.out; omega
        case first =>
          have HTb6 := hide (HM.out.drew.ps.tab a HAt.out)
          have HTb6' := hide (HM.out.ps.tab a HAt.out)
          rw [HA2.out.2.1, HA2.out.2.2.1, HA2.out.2.2.2] at HTb6 HTb6'
          have HS1 := hide (HM.out.drew.keep HA2.out HX.out)
          have HL8 := hide HL.out
          clear HTb HNew
          by_cases d0 : x.d = 0
          · have HE9 := hide (rfl : True = True)
            have HTk := hide (take_tab W6.drew p m L HTb6.out x.c x.l)
            have HRf := hide (fun V => rtake_any V m L HL.out x.c x.l)
            have HL2 := hide (show (rtH m L x.c x.l).length = 8 by rw [rtH_length]; exact HL.out)
            go_wp2_with fail
            go_region_held3 (fun V => V.cell? ⟨w.heap.size + 1, a, none⟩ = some (.pointer p) ∧ V.cell? ⟨xb, 2, none⟩ = some (.int .i64 x.c) ∧ V.cell? ⟨xb, 3, none⟩ = some (.int .i64 x.l)) (first | with_reducible exact HS1.out.2 | with_reducible exact HS5.out.2) (first
              | (go_at_call 7; with_reducible refine Calls.mono HTk.out ?_; rintro e w5 ⟨rfl, ht5, ho5⟩; have HM5 := hide (HM.out.drew.turn2 HA2.out ho5 ht5); have HS5 := hide (HM5.out.keep HA2.out HX.out); clear ht5 ho5))
            have HS5 := hide (HM5.out.drew.keep HA2.out HX.out)
            go_upto_region 15 with fail
            refine wp_region_held_drew (S := fun V => V.rangeAt (w.heap.size + 2) (a * 9) (tcl m L) ∧ V.cell? ⟨w.heap.size + 1, a, none⟩ = some (.pointer p) ∧ V.cell? ⟨xb, 2, none⟩ = some (.int .i64 x.c) ∧ V.cell? ⟨xb, 3, none⟩ = some (.int .i64 x.l)) (by kernel_rfl) (HS5.out) (fun hHeld => ?_)
            refine wpAnyH_take (i := 0) (v := .int .i64 (a : Int)) rfl (by kernel_rfl) (by kernel_rfl) (by kernel_rfl) (fun _ _ _ h => h) (Or.inl ⟨by rfl, fun V hV => by (obtain ⟨f1, f2, f3, f4⟩ := hV; go_simp)⟩) hHeld ?_
            try simp only [Act.put, List.getElem_toArray, List.getElem_cons_zero, List.setIfInBounds_toArray, List.set_cons_zero, List.set_cons_succ]
            refine wpAnyH_take (i := 1) (v := .pointer (some ⟨w.heap.size + 2, a * 9, none⟩)) rfl (by kernel_rfl) (by kernel_rfl) (by kernel_rfl) (fun _ _ _ h => h) (Or.inl ⟨by rfl, fun V hV => by (obtain ⟨f1, f2, f3, f4⟩ := hV; go_simp)⟩) hHeld ?_
            try simp only [Act.put, List.getElem_toArray, List.getElem_cons_succ, List.getElem_cons_zero, List.setIfInBounds_toArray, List.set_cons_zero, List.set_cons_succ]
            refine wpAnyH_take (i := 2) (v := .agg (tcl m L).toArray) rfl (by kernel_rfl) (by kernel_rfl) (by kernel_rfl) (fun _ _ _ h => h) (yieldsIf_load_mid (by rfl) _ _ rfl _ _ rfl _ _ (fun V hV => hV.1) U29.out.1 U29.out.2 (size29 HL8.out)) hHeld ?_
            try simp only [Act.put, List.getElem_toArray, List.getElem_cons_succ, List.getElem_cons_zero, List.setIfInBounds_toArray, List.set_cons_zero, List.set_cons_succ]
            refine wpAnyH_take (i := 3) (v := .pointer (some ⟨xb, 2, none⟩)) rfl (by kernel_rfl) (by kernel_rfl) (by kernel_rfl) (fun _ _ _ h => h) (Or.inl ⟨by rfl, fun V hV => by (obtain ⟨f1, f2, f3, f4⟩ := hV; go_simp)⟩) hHeld ?_
            try simp only [Act.put, List.getElem_toArray, List.getElem_cons_succ, List.getElem_cons_zero, List.setIfInBounds_toArray, List.set_cons_zero, List.set_cons_succ]
            refine wpAnyH_take (i := 4) (v := .int .i64 x.c) rfl (by kernel_rfl) (by kernel_rfl) (by kernel_rfl) (fun _ _ _ h => h) (Or.inl ⟨by rfl, fun V hV => by (obtain ⟨f1, f2, f3, f4⟩ := hV; go_simp)⟩) hHeld ?_
            try simp only [Act.put, List.getElem_toArray, List.getElem_cons_succ, List.getElem_cons_zero, List.setIfInBounds_toArray, List.set_cons_zero, List.set_cons_succ]
            refine wpAnyH_take (i := 5) (v := .pointer (some ⟨xb, 3, none⟩)) rfl (by kernel_rfl) (by kernel_rfl) (by kernel_rfl) (fun _ _ _ h => h) (Or.inl ⟨by rfl, fun V hV => by (obtain ⟨f1, f2, f3, f4⟩ := hV; go_simp)⟩) hHeld ?_
            try simp only [Act.put, List.getElem_toArray, List.getElem_cons_succ, List.getElem_cons_zero, List.setIfInBounds_toArray, List.set_cons_zero, List.set_cons_succ]
            refine wpAnyH_take (i := 6) (v := .int .i64 x.l) rfl (by kernel_rfl) (by kernel_rfl) (by kernel_rfl) (fun _ _ _ h => h) (Or.inl ⟨by rfl, fun V hV => by (obtain ⟨f1, f2, f3, f4⟩ := hV; go_simp)⟩) hHeld ?_
            try simp only [Act.put, List.getElem_toArray, List.getElem_cons_succ, List.getElem_cons_zero, List.setIfInBounds_toArray, List.set_cons_zero, List.set_cons_succ]
            refine wpAnyH_ready (rs := [7]) (by kernel_rfl) (by simp) ?_
            refine AllReadyH.cons rfl (fun K hK => ?_) AllReadyH.nil
            go_simp
            go_at_call 8; with_reducible refine Calls.mono (HRf.out _) ?_; rintro e w6 ⟨rfl, ho6⟩; have HM6 := hide (HM5.out.drew.grown ho6); have HS6 := hide (HM6.out.keep HA2.out HX.out); clear ho6
            go_wp2_with fail
            refine hK.out _ _ (HS6.out) (fun hHeld => ?_)
            clear hK K
            try simp only [Act.put, List.getElem_toArray, List.getElem_cons_succ, List.getElem_cons_zero, List.setIfInBounds_toArray, List.set_cons_zero, List.set_cons_succ]
            refine wpAnyH_take (i := 8) (v := .tuple #[.agg (tcl m (rtH m L x.c x.l)).toArray, .int .i64 (rtE m L x.c x.l)]) rfl (by kernel_rfl) (by kernel_rfl) (by kernel_rfl) (fun _ _ _ h => h) (Or.inl ⟨by rfl, fun V hV => by (obtain ⟨f1, f2, f3, f4⟩ := hV; go_simp)⟩) hHeld ?_
            try simp only [Act.put, List.getElem_toArray, List.getElem_cons_succ, List.getElem_cons_zero, List.setIfInBounds_toArray, List.set_cons_zero, List.set_cons_succ]
            refine wpAnyH_take (i := 9) (v := .agg (tcl m (rtH m L x.c x.l)).toArray) rfl (by kernel_rfl) (by kernel_rfl) (by kernel_rfl) (fun _ _ _ h => h) (Or.inl ⟨by rfl, fun V hV => by (obtain ⟨f1, f2, f3, f4⟩ := hV; go_simp)⟩) hHeld ?_
            try simp only [Act.put, List.getElem_toArray, List.getElem_cons_succ, List.getElem_cons_zero, List.setIfInBounds_toArray, List.set_cons_zero, List.set_cons_succ]
            refine wpAnyH_take (i := 10) (v := .int .i64 (rtE m L x.c x.l)) rfl (by kernel_rfl) (by kernel_rfl) (by kernel_rfl) (fun _ _ _ h => h) (Or.inl ⟨by rfl, fun V hV => by (obtain ⟨f1, f2, f3, f4⟩ := hV; go_simp)⟩) hHeld ?_
            try simp only [Act.put, List.getElem_toArray, List.getElem_cons_succ, List.getElem_cons_zero, List.setIfInBounds_toArray, List.set_cons_zero, List.set_cons_succ]
            refine wpAnyH_ready (rs := [11]) (by kernel_rfl) (by simp) ?_
            refine AllReadyH.cons rfl (fun K hK => ?_) AllReadyH.nil
            refine step_store29 HL2.out HL.out HM6.out.v _ _ (by rfl) (by rfl) (by rfl) (by rfl) ?_
            intro W7 hv7 ho7
            have HM7 := hide (HM6.out.store hv7 ho7)
            clear hv7 ho7
            refine hK.out _ _ (HM7.out.keep HA2.out HX.out) (fun hHeld => ?_)
            clear hK K
            try simp only [Act.put, List.getElem_toArray, List.getElem_cons_succ, List.getElem_cons_zero]
            refine wpAnyH_take (i := 12) (v := .int .i64 (rtE m L x.c x.l)) rfl (by kernel_rfl) (by kernel_rfl) (by kernel_rfl) (fun _ _ _ h => h) (Or.inl ⟨by rfl, fun V hV => by (obtain ⟨f1, f2, f3, f4⟩ := hV; go_simp)⟩) hHeld ?_
            try simp only [Act.put, List.getElem_toArray, List.getElem_cons_succ, List.getElem_cons_zero, List.setIfInBounds_toArray, List.set_cons_zero, List.set_cons_succ]
            refine wpAnyH_done (by kernel_rfl) ?_ _
            go_wp2_with fail
            go_meet
            case rel =>
              refine ⟨rtE m L x.c x.l, P, M, M, H, up H a (rtH m L x.c x.l), rfl, rfl, ?_, fun b _ hb => ⟨rfl, (up_other _ _ hb).symm⟩⟩
              rw [up_same, HA2.out.2.1]
              exact HM7.out
          by_cases d1 : x.d = 1
          · have HE9 := hide (rfl : True = True)
            have HTk := hide (drop_tab W6.drew p m L HTb6.out x.c x.l)
            have HRf := hide (fun V => rdrop_any V m L HL.out x.c x.l)
            have HL2 := hide (show (rdH m L x.c x.l).length = 8 by rw [rdH_length]; exact HL.out)
            go_wp2_with fail
            go_region_held3 (fun V => V.cell? ⟨w.heap.size + 1, a, none⟩ = some (.pointer p) ∧ V.cell? ⟨xb, 2, none⟩ = some (.int .i64 x.c) ∧ V.cell? ⟨xb, 3, none⟩ = some (.int .i64 x.l)) (first | with_reducible exact HS1.out.2 | with_reducible exact HS5.out.2) (first
              | (go_at_call 9; with_reducible refine Calls.mono HTk.out ?_; rintro e w5 ⟨rfl, ht5, ho5⟩; have HM5 := hide (HM.out.drew.turn2 HA2.out ho5 ht5); have HS5 := hide (HM5.out.keep HA2.out HX.out); clear ht5 ho5))
            have HS5 := hide (HM5.out.drew.keep HA2.out HX.out)
            go_upto_region 18 with fail
            refine wp_region_held_drew (S := fun V => V.rangeAt (w.heap.size + 2) (a * 9) (tcl m L) ∧ V.cell? ⟨w.heap.size + 1, a, none⟩ = some (.pointer p) ∧ V.cell? ⟨xb, 2, none⟩ = some (.int .i64 x.c) ∧ V.cell? ⟨xb, 3, none⟩ = some (.int .i64 x.l)) (by kernel_rfl) (HS5.out) (fun hHeld => ?_)
            refine wpAnyH_take (i := 0) (v := .int .i64 (a : Int)) rfl (by kernel_rfl) (by kernel_rfl) (by kernel_rfl) (fun _ _ _ h => h) (Or.inl ⟨by rfl, fun V hV => by (obtain ⟨f1, f2, f3, f4⟩ := hV; go_simp)⟩) hHeld ?_
            try simp only [Act.put, List.getElem_toArray, List.getElem_cons_zero, List.setIfInBounds_toArray, List.set_cons_zero, List.set_cons_succ]
            refine wpAnyH_take (i := 1) (v := .pointer (some ⟨w.heap.size + 2, a * 9, none⟩)) rfl (by kernel_rfl) (by kernel_rfl) (by kernel_rfl) (fun _ _ _ h => h) (Or.inl ⟨by rfl, fun V hV => by (obtain ⟨f1, f2, f3, f4⟩ := hV; go_simp)⟩) hHeld ?_
            try simp only [Act.put, List.getElem_toArray, List.getElem_cons_succ, List.getElem_cons_zero, List.setIfInBounds_toArray, List.set_cons_zero, List.set_cons_succ]
            refine wpAnyH_take (i := 2) (v := .agg (tcl m L).toArray) rfl (by kernel_rfl) (by kernel_rfl) (by kernel_rfl) (fun _ _ _ h => h) (yieldsIf_load_mid (by rfl) _ _ rfl _ _ rfl _ _ (fun V hV => hV.1) U29.out.1 U29.out.2 (size29 HL8.out)) hHeld ?_
            try simp only [Act.put, List.getElem_toArray, List.getElem_cons_succ, List.getElem_cons_zero, List.setIfInBounds_toArray, List.set_cons_zero, List.set_cons_succ]
            refine wpAnyH_take (i := 3) (v := .pointer (some ⟨xb, 2, none⟩)) rfl (by kernel_rfl) (by kernel_rfl) (by kernel_rfl) (fun _ _ _ h => h) (Or.inl ⟨by rfl, fun V hV => by (obtain ⟨f1, f2, f3, f4⟩ := hV; go_simp)⟩) hHeld ?_
            try simp only [Act.put, List.getElem_toArray, List.getElem_cons_succ, List.getElem_cons_zero, List.setIfInBounds_toArray, List.set_cons_zero, List.set_cons_succ]
            refine wpAnyH_take (i := 4) (v := .int .i64 x.c) rfl (by kernel_rfl) (by kernel_rfl) (by kernel_rfl) (fun _ _ _ h => h) (Or.inl ⟨by rfl, fun V hV => by (obtain ⟨f1, f2, f3, f4⟩ := hV; go_simp)⟩) hHeld ?_
            try simp only [Act.put, List.getElem_toArray, List.getElem_cons_succ, List.getElem_cons_zero, List.setIfInBounds_toArray, List.set_cons_zero, List.set_cons_succ]
            refine wpAnyH_take (i := 5) (v := .pointer (some ⟨xb, 3, none⟩)) rfl (by kernel_rfl) (by kernel_rfl) (by kernel_rfl) (fun _ _ _ h => h) (Or.inl ⟨by rfl, fun V hV => by (obtain ⟨f1, f2, f3, f4⟩ := hV; go_simp)⟩) hHeld ?_
            try simp only [Act.put, List.getElem_toArray, List.getElem_cons_succ, List.getElem_cons_zero, List.setIfInBounds_toArray, List.set_cons_zero, List.set_cons_succ]
            refine wpAnyH_take (i := 6) (v := .int .i64 x.l) rfl (by kernel_rfl) (by kernel_rfl) (by kernel_rfl) (fun _ _ _ h => h) (Or.inl ⟨by rfl, fun V hV => by (obtain ⟨f1, f2, f3, f4⟩ := hV; go_simp)⟩) hHeld ?_
            try simp only [Act.put, List.getElem_toArray, List.getElem_cons_succ, List.getElem_cons_zero, List.setIfInBounds_toArray, List.set_cons_zero, List.set_cons_succ]
            refine wpAnyH_ready (rs := [7]) (by kernel_rfl) (by simp) ?_
            refine AllReadyH.cons rfl (fun K hK => ?_) AllReadyH.nil
            go_simp
            go_at_call 10; with_reducible refine Calls.mono (HRf.out _) ?_; rintro e w6 ⟨rfl, ho6⟩; have HM6 := hide (HM5.out.drew.grown ho6); have HS6 := hide (HM6.out.keep HA2.out HX.out); clear ho6
            go_wp2_with fail
            refine hK.out _ _ (HS6.out) (fun hHeld => ?_)
            clear hK K
            try simp only [Act.put, List.getElem_toArray, List.getElem_cons_succ, List.getElem_cons_zero, List.setIfInBounds_toArray, List.set_cons_zero, List.set_cons_succ]
            refine wpAnyH_take (i := 8) (v := .tuple #[.agg (tcl m (rdH m L x.c x.l)).toArray, .int .i64 (wrE m x.c x.l)]) rfl (by kernel_rfl) (by kernel_rfl) (by kernel_rfl) (fun _ _ _ h => h) (Or.inl ⟨by rfl, fun V hV => by (obtain ⟨f1, f2, f3, f4⟩ := hV; go_simp)⟩) hHeld ?_
            try simp only [Act.put, List.getElem_toArray, List.getElem_cons_succ, List.getElem_cons_zero, List.setIfInBounds_toArray, List.set_cons_zero, List.set_cons_succ]
            refine wpAnyH_take (i := 9) (v := .agg (tcl m (rdH m L x.c x.l)).toArray) rfl (by kernel_rfl) (by kernel_rfl) (by kernel_rfl) (fun _ _ _ h => h) (Or.inl ⟨by rfl, fun V hV => by (obtain ⟨f1, f2, f3, f4⟩ := hV; go_simp)⟩) hHeld ?_
            try simp only [Act.put, List.getElem_toArray, List.getElem_cons_succ, List.getElem_cons_zero, List.setIfInBounds_toArray, List.set_cons_zero, List.set_cons_succ]
            refine wpAnyH_take (i := 10) (v := .int .i64 (wrE m x.c x.l)) rfl (by kernel_rfl) (by kernel_rfl) (by kernel_rfl) (fun _ _ _ h => h) (Or.inl ⟨by rfl, fun V hV => by (obtain ⟨f1, f2, f3, f4⟩ := hV; go_simp)⟩) hHeld ?_
            try simp only [Act.put, List.getElem_toArray, List.getElem_cons_succ, List.getElem_cons_zero, List.setIfInBounds_toArray, List.set_cons_zero, List.set_cons_succ]
            refine wpAnyH_ready (rs := [11]) (by kernel_rfl) (by simp) ?_
            refine AllReadyH.cons rfl (fun K hK => ?_) AllReadyH.nil
            refine step_store29 HL2.out HL.out HM6.out.v _ _ (by rfl) (by rfl) (by rfl) (by rfl) ?_
            intro W7 hv7 ho7
            have HM7 := hide (HM6.out.store hv7 ho7)
            clear hv7 ho7
            refine hK.out _ _ (HM7.out.keep HA2.out HX.out) (fun hHeld => ?_)
            clear hK K
            try simp only [Act.put, List.getElem_toArray, List.getElem_cons_succ, List.getElem_cons_zero]
            refine wpAnyH_take (i := 12) (v := .int .i64 (wrE m x.c x.l)) rfl (by kernel_rfl) (by kernel_rfl) (by kernel_rfl) (fun _ _ _ h => h) (Or.inl ⟨by rfl, fun V hV => by (obtain ⟨f1, f2, f3, f4⟩ := hV; go_simp)⟩) hHeld ?_
            try simp only [Act.put, List.getElem_toArray, List.getElem_cons_succ, List.getElem_cons_zero, List.setIfInBounds_toArray, List.set_cons_zero, List.set_cons_succ]
            refine wpAnyH_done (by kernel_rfl) ?_ _
            go_wp2_with fail
            go_meet
            case rel =>
              refine ⟨wrE m x.c x.l, P, M, M, H, up H a (rdH m L x.c x.l), rfl, rfl, ?_, fun b _ hb => ⟨rfl, (up_other _ _ hb).symm⟩⟩
              rw [up_same, HA2.out.2.1]
              exact HM7.out
          have e0 : (x.d == 0) = false := by simpa using d0
          have e1 : (x.d == 1) = false := by simpa using d1
          by_cases d2 : x.d = 2
          · obtain ⟨b, hb⟩ : ∃ b : Nat, b = 1 - a := ⟨_, rfl⟩
            have HBt := hide (show b < 2 by omega)
            have HBa := hide (show b ≠ a by have := HAt.out; omega)
            have hwb : IntKind.i64.wrap (1 - (a : Int)) = (b : Int) := by have := HAt.out; rw [IntKind.wrap_i64]; omega
            have lb0 : (0 : Int) ≤ (b : Int) := by omega
            have lb1 : (b : Int) < 2 := by have := HBt.out; omega
            have HCp := hide (copy_tab W6 p m L HTb6'.out)
            have ca := (HM.out.keep HA2.out HX.out).2.1
            clear hb d0 d1
            go_wp2_with (first
              | (go_at_call 11; with_reducible refine Calls.mono HCp.out ?_; rintro e w5 ⟨q, rfl, ht5, hq5, ho5⟩; have HM5 := hide (HM.out.point HBt.out ho5 ht5 hq5); have cb := (HM.out.ps.grown ho5).ptr HBt.out; have fb := (HM.out.ps.grown ho5).tb.frozen b; have HM6 := hide (HM5.out.put HBt.out (m := m) (L := L) HL.out); have HVt := hide (HM5.out.ps.vt b HBt.out); have HRg := hide (HM5.out.ps.vb a HAt.out).1; rw [HA2.out.2.1, HA2.out.2.2.1] at HRg; clear ht5 hq5 ho5)
              | ((with_reducible refine at29L ?_); refine wp_load29 HL.out HRg.out _ (by rfl) (by rfl) (by rfl) ?_)
              | ((with_reducible refine at29S ?_); refine wp_store29m HL.out HVt.out _ _ (by rfl) (by rfl) (by rfl) (by rfl) ?_))
            go_meet
            case rel =>
              refine ⟨0, up P b q, up M b m, up M b m, up H b L, up H b L, rfl, rfl, ?_, fun _ _ _ => ⟨rfl, rfl⟩⟩
              rw [up_other _ _ (Ne.symm HBa.out), up_other _ _ (Ne.symm HBa.out), HA2.out.2.1, HA2.out.2.2.1]
              exact HM6.out
          have e2 : (x.d == 2) = false := by simpa using d2
          by_cases d3 : x.d = 3
          · have HNw := hide (new_any W6)
            clear d0 d1 d2
            go_wp2_with (first
              | (go_at_call 6; with_reducible refine Calls.mono HNw.out ?_; rintro e w5 ⟨rfl, hb5, ho5⟩; have HM5 := hide (HM.out.pnew HAt.out ho5 hb5); have cb := (HM.out.ps.grown ho5).ptr HAt.out; have fb := (HM.out.ps.grown ho5).tb.frozen a; clear hb5 ho5)
              | ((with_reducible refine at29S ?_); refine wp_store29 (m := true) HZ.out HL.out HM5.out.v _ _ (by rfl) (by rfl) (by rfl) (by rfl) ?_; intro W7 hv7 ho7; have HM7 := hide (HM5.out.store hv7 ho7); clear hv7 ho7))
            go_meet
            case rel =>
              refine ⟨0, up P a (some ⟨W6.heap.size, 0, none⟩), M, up M a true, H, up H a h0, rfl, rfl, ?_, fun b _ hb => ⟨(up_other _ _ hb).symm, (up_other _ _ hb).symm⟩⟩
              rw [up_same, up_same]
              exact HM7.out
          have e3 : (x.d == 3) = false := by simpa using d3
          go_wp2_with fail
          go_meet
          case rel =>
            refine ⟨0, P, M, M, H, H, rfl, rfl, ?_, fun b _ hb => ⟨rfl, rfl⟩⟩
            rw [HA2.out.2.1, HA2.out.2.2.1]
            exact HM.out
      · obtain rfl : k = len := by omega
        have HT0 := hide (HR.out.tab 0 (by omega))
        have HT1 := hide (HR.out.tab 1 (by omega))
        have HR0 := hide (HR.out.vb 0 (by omega))
        have HR1 := hide (HR.out.vb 1 (by omega))
        have c0 := HR.out.ptr (a := 0) (by omega)
        have c1 := HR.out.ptr (a := 1) (by omega)
        have HK0 := hide (look_tab _ _ _ _ HT0.out 0 0)
        rw [show 0 * 9 = 0 by omega] at HR0
        rw [show 1 * 9 = 9 by omega] at HR1
        clear HP HLn
        go_wp2_with (first
          | ((with_reducible refine at29L ?_); refine wp_load29 HR0.out.2 HR0.out.1 _ (by rfl) (by rfl) (by rfl) ?_)
          | (go_at_call 12; with_reducible refine Calls.mono HK0.out ?_; rintro e y1 ⟨rfl, ho⟩; have HR1' := hide (range_only HR1.out.1 ho (by simp)); have d1 := (HR.out.grown ho).ptr (a := 1) (by omega); have HK1 := hide (look_tab _ _ _ _ ((HR.out.grown ho).tab 1 (by omega)) 0 1); have HB1 := hide ((HR.out.grown ho).bel); clear ho HK0)
          | ((with_reducible refine at29L ?_); refine wp_load29G HR1.out.2 HR1'.out _ (by rfl) (by rfl) (by rfl) ?_)
          | (go_at_call 12; with_reducible refine Calls.mono HK1.out ?_; rintro e y2 ⟨rfl, ho⟩; have HB2 := hide (HB1.out.trans (ho.below HB1.out.size (by simp))); clear ho)
          | (go_at_call 5; with_reducible refine Calls.mono (HAw.out _) ?_; rintro e y3 ⟨rfl, ho⟩; have HB3 := hide (HB2.out.trans (ho.below HB2.out.size (by simp))); clear ho))
        go_ret
        exact ⟨rfl, HB3.out⟩
end Go.Proofs.Ythenbbpfbkmhnaa
