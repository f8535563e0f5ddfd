/- Two tables of the program beside two of the document: what memory holds between two steps. -/
import Derived.Test.YthenbbpfbkmhnaaI
import Derived.Test.YthenbbpfbkmhnaaR
namespace Go.Proofs.Ythenbbpfbkmhnaa
open Go.ChangeShapes Go.WideShapes Go.ChangeAt Go.RowKit
set_option linter.unusedVariables false

theorem range_only {S : List Nat} {w w' : World} {b o : Nat} {cs : List Value} (h : w.rangeAt b o cs) (ho : Only S w w') (hn : b ∉ S) : w'.rangeAt b o cs := fun j v hv => by
  have := h j v hv
  have hb := World.block_lt_of_cell? w _ this
  rw [World.cell?_of_block (w := w) (ho.block b hb hn)]; exact this
theorem there_only {S : List Nat} {w w' : World} {b o n : Nat} (h : w.there b o n) (ho : Only S w w') (hn : b ∉ S) : w'.there b o n := fun j hj => by
  obtain ⟨h1, h2⟩ := h j hj
  obtain ⟨u, hu⟩ := Option.isSome_iff_exists.1 h1
  have hb := World.block_lt_of_cell? w _ hu
  exact ⟨by rw [World.cell?_of_block (w := w) (ho.block b hb hn)]; exact h1, by rw [World.frozen?_of_block (w := w) (ho.block b hb hn)]; exact h2⟩
theorem setCells_only (b : Nat) : ∀ (vs : List Value) (o : Nat) (w : World), Only [b] w (w.setCells b o vs)
  | [], o, w => Only.refl _ _
  | v :: r, o, w => (Only.setCell w ⟨b, o, none⟩ v).trans (setCells_only b r (o + 1) _)

/-- The blocks of a pointer. -/
def blk1 (p : Option Addr) : List Nat := match p with | some a => [a.block] | none => []
/-- A table of the program, and the document's. -/
def Tab (w : World) (p : Option Addr) (m : Bool) (h : List Int) : Prop := (p = none ∧ m = false ∧ h = h0) ∨ ∃ g, p = some ⟨g, 0, none⟩ ∧ m = true ∧ h.length = 8 ∧ TB w g h
theorem Tab.len {w : World} {p : Option Addr} {m : Bool} {h : List Int} (t : Tab w p m h) : h.length = 8 := by
  rcases t with ⟨_, _, rfl⟩ | ⟨g, _, _, h8, _⟩
  · rfl
  · exact h8
theorem Tab.only {S : List Nat} {w w' : World} {p : Option Addr} {m : Bool} {h : List Int} (t : Tab w p m h) (ho : Only S w w') (hn : ∀ k ∈ blk1 p, k ∉ S) : Tab w' p m h := by
  rcases t with ⟨rfl, rfl, rfl⟩ | ⟨g, rfl, rfl, h8, hb⟩
  · exact .inl ⟨rfl, rfl, rfl⟩
  · exact .inr ⟨g, rfl, rfl, h8, ho.blk hb (hn g (by simp [blk1]))⟩
theorem Tab.lt {w : World} {p : Option Addr} {m : Bool} {h : List Int} (t : Tab w p m h) : ∀ k ∈ blk1 p, k < w.heap.size := by
  rcases t with ⟨rfl, rfl, rfl⟩ | ⟨g, rfl, rfl, h8, hb⟩
  · simp [blk1]
  · intro k hk
    simp [blk1] at hk
    subst hk
    exact hb.lt
theorem take_tab (w : World) (p : Option Addr) (m : Bool) (h : List Int) (t : Tab w p m h) (c l : Int) : Calls Try.prog 7 #[.pointer p, .int .i64 c, .int .i64 l] w fun e w' => e = .returned (.int .i64 (rtE m h c l)) ∧ Tab w' p m (rtH m h c l) ∧ Only (blk1 p) w w' := by
  rcases t with ⟨rfl, rfl, rfl⟩ | ⟨g, rfl, rfl, h8, hb⟩
  · refine (take_nil w c l).mono ?_
    rintro e w' ⟨rfl, rfl⟩
    exact ⟨rfl, .inl ⟨rfl, rfl, rfl⟩, Only.refl _ _⟩
  · refine (take_some w g h h8 hb c l).mono ?_
    rintro e w' ⟨rfl, h1, h2⟩
    exact ⟨rfl, .inr ⟨g, rfl, rfl, by rw [rtH_length]; exact h8, h1⟩, h2⟩
theorem drop_tab (w : World) (p : Option Addr) (m : Bool) (h : List Int) (t : Tab w p m h) (c l : Int) : Calls Try.prog 9 #[.pointer p, .int .i64 c, .int .i64 l] w fun e w' => e = .returned (.int .i64 (wrE m c l)) ∧ Tab w' p m (rdH m h c l) ∧ Only (blk1 p) w w' := by
  rcases t with ⟨rfl, rfl, rfl⟩ | ⟨g, rfl, rfl, h8, hb⟩
  · refine (drop_nil w c l).mono ?_
    rintro e w' ⟨rfl, rfl⟩
    exact ⟨rfl, .inl ⟨rfl, rfl, rfl⟩, Only.refl _ _⟩
  · refine (drop_some w g h h8 hb c l).mono ?_
    rintro e w' ⟨rfl, h1, h2⟩
    exact ⟨rfl, .inr ⟨g, rfl, rfl, by rw [rdH_length]; exact h8, h1⟩, h2⟩
theorem copy_tab (w : World) (p : Option Addr) (m : Bool) (h : List Int) (t : Tab w p m h) : Calls Try.prog 11 #[.pointer p] w fun e w' => ∃ q, e = .returned (.pointer q) ∧ Tab w' q m h ∧ (∀ k ∈ blk1 q, w.heap.size ≤ k) ∧ Only [] w w' := by
  rcases t with ⟨rfl, rfl, rfl⟩ | ⟨g, rfl, rfl, h8, hb⟩
  · refine (copy_nil w).mono ?_
    rintro e w' ⟨rfl, rfl⟩
    exact ⟨none, rfl, .inl ⟨rfl, rfl, rfl⟩, by simp [blk1], Only.refl _ _⟩
  · refine (copy_some w g h h8 hb).mono ?_
    rintro e w' ⟨rfl, h1, h2⟩
    exact ⟨_, rfl, .inr ⟨_, rfl, rfl, h8, h1⟩, by simp [blk1], h2⟩
theorem look_tab (w : World) (p : Option Addr) (m : Bool) (h : List Int) (t : Tab w p m h) (c l : Int) : Calls Try.prog 12 #[.pointer p, .agg (tcl m h).toArray, .int .i64 c, .int .i64 l] w fun e w' => e = .returned (.bool true) ∧ Only [] w w' := by
  rcases t with ⟨rfl, rfl, rfl⟩ | ⟨g, rfl, rfl, h8, hb⟩
  · exact look_nil w c l
  · cases hl : okL l
    · exact look_bad w g h h8 hb c l hl
    · exact look_ok w g h h8 hb c l hl

/-- One of two has turned. -/
def up {α : Type} (f : Nat → α) (a : Nat) (x : α) : Nat → α := fun i => if i = a then x else f i
theorem up_same {α : Type} (f : Nat → α) (a : Nat) (x : α) : up f a x a = x := if_pos rfl
theorem up_other {α : Type} (f : Nat → α) {a b : Nat} (x : α) (h : b ≠ a) : up f a x b = f b := if_neg h
theorem up_self {α : Type} (f : Nat → α) (a : Nat) : up f a (f a) = f := by funext i; unfold up; split; simp_all; rfl

/-- What memory holds: the program's two pointers, the document's two tables. -/
structure PS (w wr : World) (P : Nat → Option Addr) (M0 M : Nat → Bool) (H0 H : Nat → List Int) : Prop where
  tb : Blk wr (w.heap.size + 1) #[.pointer (P 0), .pointer (P 1)] 26
  vb : ∀ a, a < 2 → wr.rangeAt (w.heap.size + 2) (a * 9) (tcl (M0 a) (H0 a)) ∧ (H0 a).length = 8
  vt : ∀ a, a < 2 → wr.there (w.heap.size + 2) (a * 9) 9
  tab : ∀ a, a < 2 → Tab wr (P a) (M a) (H a)
  low : ∀ a, a < 2 → ∀ k ∈ blk1 (P a), w.heap.size ≤ k ∧ k ≠ w.heap.size + 1 ∧ k ≠ w.heap.size + 2
  ne : ∀ k ∈ blk1 (P 0), k ∉ blk1 (P 1)
  bel : Below w.heap.size w wr
section
variable {w wr wr' : World} {P : Nat → Option Addr} {M0 M : Nat → Bool} {H0 H : Nat → List Int}
theorem two_cases {a : Nat} (h : a < 2) : a = 0 ∨ a = 1 := by omega
theorem PS.ptr (h : PS w wr P M0 M H0 H) {a : Nat} (ha : a < 2) : wr.cell? ⟨w.heap.size + 1, a, none⟩ = some (.pointer (P a)) := by
  rw [h.tb.cell]
  rcases two_cases ha with rfl | rfl <;> rfl
theorem PS.sizes (h : PS w wr P M0 M H0 H) : w.heap.size + 2 < wr.heap.size := by
  have h1 := (h.vt 0 (by omega) 0 (by omega)).1
  obtain ⟨u, hu⟩ := Option.isSome_iff_exists.1 h1
  exact World.block_lt_of_cell? wr _ hu
theorem PS.only (h : PS w wr P M0 M H0 H) {S : List Nat} (ho : Only S wr wr') (hS : ∀ k ∈ S, w.heap.size ≤ k ∧ k ≠ w.heap.size + 1 ∧ k ≠ w.heap.size + 2) (hP : ∀ a, a < 2 → ∀ k ∈ blk1 (P a), k ∉ S) : PS w wr' P M0 M H0 H := by
  refine ⟨ho.blk h.tb (fun hm => (hS _ hm).2.1 rfl), fun a ha => ⟨range_only (h.vb a ha).1 ho (fun hm => (hS _ hm).2.2 rfl), (h.vb a ha).2⟩, fun a ha => there_only (h.vt a ha) ho (fun hm => (hS _ hm).2.2 rfl), fun a ha => (h.tab a ha).only ho (hP a ha), h.low, h.ne, h.bel.trans (ho.below h.bel.size (fun j hj => (hS j hj).1))⟩
theorem PS.grown (h : PS w wr P M0 M H0 H) (ho : Only [] wr wr') : PS w wr' P M0 M H0 H := h.only ho (by simp) (by simp)
theorem PS.drew (h : PS w wr P M0 M H0 H) : PS w wr.drew P M0 M H0 H := h.grown (Only.drew _ _)
/-- The other table's block. -/
theorem PS.apart (h : PS w wr P M0 M H0 H) {a b : Nat} (ha : a < 2) (hb : b < 2) (hne : a ≠ b) : ∀ k ∈ blk1 (P a), k ∉ blk1 (P b) := by
  rcases two_cases ha with rfl | rfl <;> rcases two_cases hb with rfl | rfl
  · exact absurd rfl hne
  · exact h.ne
  · exact fun k hk hm => h.ne k hm hk
  · exact absurd rfl hne
/-- A table of the program turned. -/
theorem PS.turn (h : PS w wr P M0 M H0 H) {a : Nat} (ha : a < 2) {L : List Int} (ho : Only (blk1 (P a)) wr wr') (ht : Tab wr' (P a) (M a) L) : PS w wr' P M0 M H0 (up H a L) := by
  refine ⟨ho.blk h.tb (fun hm => (h.low a ha _ hm).2.1 rfl), fun b hb => ⟨range_only (h.vb b hb).1 ho (fun hm => (h.low a ha _ hm).2.2 rfl), (h.vb b hb).2⟩, fun b hb => there_only (h.vt b hb) ho (fun hm => (h.low a ha _ hm).2.2 rfl), fun b hb => ?_, h.low, h.ne, h.bel.trans (ho.below h.bel.size (fun j hj => (h.low a ha j hj).1))⟩
  by_cases e : b = a
  · subst e; rw [up_same]; exact ht
  · rw [up_other _ _ e]; exact (h.tab b hb).only ho (h.apart hb ha e)
/-- A pointer stored. -/
theorem PS.point (h : PS w wr P M0 M H0 H) {a : Nat} (ha : a < 2) {q : Option Addr} {m : Bool} {L : List Int} (ht : Tab wr q m L) (hq : ∀ k ∈ blk1 q, w.heap.size + 2 < k) (hne : ∀ b, b < 2 → b ≠ a → ∀ k ∈ blk1 (P b), k ∉ blk1 q) :
    PS w (wr.setCell ⟨w.heap.size + 1, a, none⟩ (.pointer q)) (up P a q) M0 (up M a m) H0 (up H a L) := by
  have ho := Only.setCell wr ⟨w.heap.size + 1, a, none⟩ (.pointer q)
  have hs := h.sizes
  refine ⟨?_, fun b hb => ⟨range_only (h.vb b hb).1 ho (by simp), (h.vb b hb).2⟩, fun b hb => there_only (h.vt b hb) ho (by simp), fun b hb => ?_, fun b hb => ?_, ?_, h.bel.trans (ho.below h.bel.size (by simp))⟩
  · have := h.tb.set a (.pointer q)
    rcases two_cases ha with rfl | rfl
    · exact this
    · exact this
  · by_cases e : b = a
    · subst e
      rw [up_same, up_same, up_same]
      exact ht.only ho (fun k hk hm => by have := hq k hk; simp at hm; omega)
    · rw [up_other _ _ e, up_other _ _ e, up_other _ _ e]
      exact (h.tab b hb).only ho (fun k hk hm => by have := h.low b hb k hk; simp at hm; omega)
  · by_cases e : b = a
    · subst e
      rw [up_same]
      intro k hk
      have := hq k hk
      omega
    · rw [up_other _ _ e]
      exact h.low b hb
  · rcases two_cases ha with rfl | rfl
    · rw [up_same, up_other _ _ (by omega)]
      exact fun k hk hm => hne 1 (by omega) (by omega) k hm hk
    · rw [up_same, up_other _ _ (by omega)]
      exact hne 0 (by omega) (by omega)
/-- A table of the document stored. -/
theorem PS.put (h : PS w wr P M0 M H0 H) {a : Nat} (ha : a < 2) {m : Bool} {L : List Int} (h8 : L.length = 8) : PS w (wr.setCells (w.heap.size + 2) (a * 9) (tcl m L)) P (up M0 a m) M (up H0 a L) H := by
  have ho := setCells_only (w.heap.size + 2) (tcl m L) (a * 9) wr
  refine ⟨ho.blk h.tb (by simp), fun b hb => ?_, fun b hb => World.there_setCells (h.vt b hb) _ _ _, fun b hb => (h.tab b hb).only ho (fun k hk hm => by have := h.low b hb k hk; simp at hm; omega), h.low, h.ne, h.bel.trans (ho.below h.bel.size (by simp))⟩
  have hl : (tcl m L).length = 9 := by rw [tcl_length, h8]
  by_cases e : b = a
  · subst e
    rw [up_same, up_same]
    exact ⟨World.rangeAt_setCells_same _ _ _ _ (by rw [hl]; exact h.vt b hb), h8⟩
  · rw [up_other _ _ e, up_other _ _ e]
    have hl2 : (tcl (M0 b) (H0 b)).length = 9 := by rw [tcl_length, (h.vb b hb).2]
    refine ⟨World.rangeAt_setCells_apart (h.vb b hb).1 _ _ _ (.inr ?_), (h.vb b hb).2⟩
    rw [hl, hl2]
    rcases two_cases ha with rfl | rfl <;> rcases two_cases hb with rfl | rfl <;> omega
end
theorem at29L {P : Program} {ops : Array Oper} {Q : Exit → Act → World → Prop} {d : Option Tmp} {x : Operand} {ty : TypeId} {pos : String} {af : Array Edge} {gd : Option (Nat × Bool)} {rest : List Oper} {a : Act} {w : World} (h : wpList P ops Q ({ dst := d, op := .load 29 x, type := ty, pos := pos, after := af, guard := gd } :: rest) a w) : wpList P ops Q ({ dst := d, op := .load 29 x, type := ty, pos := pos, after := af, guard := gd } :: rest) a w := h
theorem at29S {P : Program} {ops : Array Oper} {Q : Exit → Act → World → Prop} {d : Option Tmp} {x y : Operand} {ty : TypeId} {pos : String} {af : Array Edge} {gd : Option (Nat × Bool)} {rest : List Oper} {a : Act} {w : World} (h : wpList P ops Q ({ dst := d, op := .store 29 x y, type := ty, pos := pos, after := af, guard := gd } :: rest) a w) : wpList P ops Q ({ dst := d, op := .store 29 x y, type := ty, pos := pos, after := af, guard := gd } :: rest) a w := h
/-- A table of the document stored into the row of two. -/
theorem wp_store29m {ops : Array Oper} {rest : List Oper} {o : Oper} {a : Act} {Q : Exit → Act → World → Prop} {w : World} {g k : Nat} {m : Bool} {h : List Int} (h8 : h.length = 8) (ht : w.there g k 9) (x y : Operand)
    (hgd : o.guard = none) (ho : o.op = .store 29 x y) (hx : a.eval x = .pointer (some ⟨g, k, none⟩)) (hy : a.eval y = .agg (tcl m h).toArray)
    (hk : wpList Try.prog ops Q rest (a.put o.dst undef) (w.setCells g k (tcl m h))) : wpList Try.prog ops Q (o :: rest) a w := by
  have hl : (tcl m h).toArray.size = 9 := by simp [tcl_length, h8]
  refine wpList_store_mid hgd 29 x y ho g k (tcl m h).toArray hx hy (by rw [hl]; exact ht) (by rw [hl]; exact info29) (tcl_all m h) ?_
  simpa using hk
theorem step_store29 {ops : Array Oper} {o : Oper} {a : Act} {w : World} {K : Act → World → Prop} {Q : Exit → Act → World → Prop} {E : Prop} {g : Nat} {m m0 : Bool} {h h1 : List Int} (h8 : h.length = 8) (h18 : h1.length = 8) (hg : Blk w g (tcl m0 h1).toArray 29) (x y : Operand)
    (hgd : o.guard = none) (ho : o.op = .store 29 x y) (hx : a.eval x = .pointer (some ⟨g, 0, none⟩)) (hy : a.eval y = .agg (tcl m h).toArray)
    (hk : ∀ W', Blk W' g (tcl m h).toArray 29 → Only [g] w W' → K (a.put o.dst undef) W') : if Region.wanted o (yielded ops a.tmps) = true then Oper.wp Try.prog o a w K Q else E := by
  have hw : Region.wanted o (yielded ops a.tmps) = true := by simp [Region.wanted, hgd]
  rw [if_pos hw]
  exact wp_store_row 29 x y ho g (tcl m h).toArray hx hy 29 (tcl m0 h1).toArray hg (by simpa using size29 h8) (by simp [tcl_length, h8, h18]) (tcl_all m h)
    (hk _ (setRow_heap w g _ _ _ _ hg) ⟨rfl, rfl, rfl, by simp [World.setRow], fun k _ hk => by simp only [World.setRow]; rw [Array.getElem?_modify, if_neg (fun e => hk (by simp [e]))]⟩)
theorem i64_and1 (n : Int) : bits .and .i64 n 1 = n % 2 := by
  have h127 : (BitVec.ofInt 64 1).toNat = 2 ^ 1 - 1 := by decide
  have key : (BitVec.ofInt 64 n &&& BitVec.ofInt 64 1).toNat = (n % ((2 ^ 64 : Nat) : Int)).toNat % 2 ^ 1 := by
    rw [BitVec.toNat_and, BitVec.toNat_ofInt, h127, Nat.and_two_pow_sub_one_eq_mod]
  show IntKind.i64.wrap ((BitVec.ofInt 64 n &&& BitVec.ofInt 64 1).toNat : Nat) = n % 2
  rw [key, IntKind.wrap_i64]
  omega
end Go.Proofs.Ythenbbpfbkmhnaa
