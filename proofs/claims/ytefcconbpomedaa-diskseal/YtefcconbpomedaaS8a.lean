/- For the walk of DiskSeal: its two boxes, and room for 64 cells that is there. -/
import Derived.Test.YtefcconbpomedaaS7
import Derived.Test.YtefcconbpomedaaQ
namespace Go.Proofs.Ytefcconbpomedaa
open Go.ChangeShapes Go.WideShapes Go.ChangeAt Go.RowKit
set_option linter.unusedVariables false

theorem there_grown {U V : World} (h : U.grownBy V none) : ∀ g, U.there g 0 64 → V.there g 0 64 := fun g hg j hj => by
  obtain ⟨h1, h2⟩ := hg j hj
  obtain ⟨u, hu⟩ := Option.isSome_iff_exists.1 h1
  have hlt := World.block_lt_of_cell? U _ hu
  have hb := h.block g hlt (by simp)
  exact ⟨by rw [World.cell?_of_block (a := ⟨g, 0 + j, none⟩) hb]; exact h1, by rw [World.frozen?_of_block (a := ⟨g, 0 + j, none⟩) hb]; exact h2⟩

theorem there_new (U : World) (C : Array Value) (hC : C.size = 64) : (U.alloc (.cells C 42)).there U.heap.size 0 64 := fun j hj => by
  have hb : Blk (U.alloc (.cells C 42)) U.heap.size C 42 := alloc_new _ _
  exact ⟨by rw [hb.cell]; simp [hC, hj], hb.frozen _⟩
theorem there_new2 (U : World) (o : Obj) (C : Array Value) (hC : C.size = 64) : ((U.alloc o).alloc (.cells C 42)).there (U.heap.size + 1) 0 64 := by
  have := there_new (U.alloc o) C hC
  simpa using this

/-- The two boxes of DiskSeal's arguments, and where new blocks begin. -/
structure Bx (n : Nat) (va vp : Array Value) (V : World) : Prop where
  a : Blk V n va 40
  b : Blk V (n + 1) vp 40
theorem bxAlloc {n : Nat} {va vp : Array Value} {U : World} {o : Obj} (h : Bx n va vp U) : Bx n va vp (U.alloc o) :=
  ⟨(Below.heap_alloc _ _ _ h.a.lt).trans h.a, (Below.heap_alloc _ _ _ h.b.lt).trans h.b⟩
theorem bxDrew {n : Nat} {va vp : Array Value} {U : World} (h : Bx n va vp U) : Bx n va vp U.drew := ⟨h.a, h.b⟩
theorem bxGrown {n : Nat} {va vp : Array Value} {U V : World} (h : Bx n va vp U) (hg : U.grownBy V none) : Bx n va vp V :=
  ⟨(hg.block _ h.a.lt (by simp)).trans h.a, (hg.block _ h.b.lt (by simp)).trans h.b⟩
theorem setCells_block (b : Nat) : ∀ (vs : List Value) (o : Nat) (U : World) (k : Nat), k ≠ b → (U.setCells b o vs).heap[k]? = U.heap[k]?
  | [], o, U, k, h => rfl
  | v :: vs, o, U, k, h => by
    show ((U.setCell ⟨b, o, none⟩ v).setCells b (o + 1) vs).heap[k]? = _
    rw [setCells_block b vs (o + 1) _ k h]
    exact Below.heap_setCell _ _ _ _ h
theorem bxSet {n : Nat} {va vp : Array Value} {U : World} {g : Nat} {cs : List Value} (ha : va.size = 4) (hp : vp.size = 4) (h : Bx n va vp U) (ht : U.there g 0 64) : Bx n va vp (U.setCells g 0 cs) := by
  have h1 : n ≠ g := fun e => by
    have := (ht 10 (by omega)).1
    rw [← e, h.a.cell] at this
    simp [ha] at this
  have h2 : n + 1 ≠ g := fun e => by
    have := (ht 10 (by omega)).1
    rw [← e, h.b.cell] at this
    simp [hp] at this
  exact ⟨(setCells_block g cs 0 U n h1).trans h.a, (setCells_block g cs 0 U (n + 1) h2).trans h.b⟩

theorem setCells_size (b : Nat) : ∀ (vs : List Value) (o : Nat) (U : World), (U.setCells b o vs).heap.size = U.heap.size ∧ (U.setCells b o vs).os = U.os ∧ (U.setCells b o vs).tape = U.tape ∧ (U.setCells b o vs).output = U.output
  | [], o, U => ⟨rfl, rfl, rfl, rfl⟩
  | v :: vs, o, U => by
    have ih := setCells_size b vs (o + 1) (U.setCell ⟨b, o, none⟩ v)
    refine ⟨ih.1.trans (by simp [World.setCell]), ih.2.1, ih.2.2.1, ih.2.2.2⟩
theorem belSet {w U : World} {g : Nat} {cs : List Value} (h : Below w.heap.size w U) (hg : w.heap.size ≤ g) : Below w.heap.size w (U.setCells g 0 cs) :=
  have e := setCells_size g cs 0 U
  ⟨e.2.1.trans h.os, e.2.2.1.trans h.tape, e.2.2.2.trans h.output, by rw [e.1]; exact h.size, fun k hk => (setCells_block g cs 0 U k (by omega)).trans (h.block k hk)⟩
theorem belAlloc {w U : World} {o : Obj} (h : Below w.heap.size w U) : Below w.heap.size w (U.alloc o) := h.alloc h.size o
theorem belGrown {w U V : World} (h : Below w.heap.size w U) (hg : U.grownBy V none) : Below w.heap.size w V := h.trans ((Only.of_grown hg).below h.size (by simp))
theorem fin_x {U : World} {bx b' : Nat} {xs ys : List Value} (lx : xs.length = 64) (tx : U.there bx 0 64) (hne : bx ≠ b') : ((U.setCells bx 0 xs).setCells b' 0 ys).rangeAt bx 0 xs :=
  World.rangeAt_setCells_apart (World.rangeAt_setCells_same U bx 0 xs (by rw [lx]; exact tx)) b' 0 ys (.inl hne)
theorem fin_y {U : World} {bx b' : Nat} {xs ys : List Value} (ly : ys.length = 64) (ty : U.there b' 0 64) : ((U.setCells bx 0 xs).setCells b' 0 ys).rangeAt b' 0 ys :=
  World.rangeAt_setCells_same _ b' 0 ys (World.there_setCells (by rw [ly]; exact ty) bx 0 xs)

/-- Four numbers as a value. -/
abbrev vec (a b c d : Nat) : Array Value := #[.int .u32 a, .int .u32 b, .int .u32 c, .int .u32 d]

end Go.Proofs.Ytefcconbpomedaa
