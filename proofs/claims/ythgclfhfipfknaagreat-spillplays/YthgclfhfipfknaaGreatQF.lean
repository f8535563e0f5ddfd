/- Package space: a page is taken out of its place among the free ones: the plain part, and the parts of the walk. -/
/- Package space: Free. -/
import Derived.Test.YthgclfhfipfknaaGreatQA
namespace Go.Proofs.YthgclfhfipfknaaGreat
variable {sv : Value}
open Go.ChangeShapes Go.WideShapes Go.ChangeAt Go.RowKit Go.Maps
set_option linter.unusedVariables false

/-- Where page k is met among the free pages: behind which one (0: it is the first), and its link. -/
noncomputable def liftR (P : Nat → List UInt8) (n k : Nat) : Nat → Nat → Nat → Option (Nat × Nat)
  | 0, _, _ => none
  | f + 1, L, last => if 2 ≤ L ∧ L ≤ n ∧ isFree (P L) = true then (if L = k then some (last, linkV (P L)) else liftR P n k f (linkV (P L)) L) else none
/-- What lift leaves. -/
def LfW (sv : Value) (w w' : World) (t pm n : Nat) (P : Nat → List UInt8) (K F : Nat) (N : Nat → Nat) : Option (Nat × Nat) → Prop
  | none => Below w.heap.size w w'
  | some (0, x) => Only [F] w w' ∧ FstB w' F x N
  | some (l + 1, x) => Tr sv w' t pm n (upP P (l + 1) (freeL x)) (K + 1) true ∧ Only [t, pm] w w'
/-- The state of lift's loop. -/
structure LfI (w wr : World) (A M C B LB L m n t last lk : Nat) : Prop where
  bel : Below w.heap.size w wr
  mt : MtB wr A M C B L m n t
  lb : Blk wr LB #[.int .i64 (last : Int), .int .u32 (lk : Int)] 111
  a : w.heap.size ≤ A
  mm : w.heap.size ≤ M
  l : w.heap.size ≤ LB
  lt : L < 4294967296
  one : 1 ≤ m
  le : m ≤ n
theorem LfI.ne {w wr : World} {A M C B LB L m n t last lk : Nat} (h : LfI w wr A M C B LB L m n t last lk) : LB ≠ A ∧ LB ≠ M ∧ LB ≠ C ∧ LB ≠ B := by
  refine ⟨?_, ?_, ?_, ?_⟩
  · rintro rfl; have := h.lb.symm.trans h.mt.a; simp at this
  · rintro rfl; have := h.lb.symm.trans h.mt.m; simp at this
  · rintro rfl; have := h.lb.symm.trans h.mt.c; simp at this
  · rintro rfl; have := h.lb.symm.trans h.mt.b; simp at this
theorem liftR_none {P : Nat → List UInt8} {n k m L last : Nat} (hm : 1 ≤ m) (h : ¬ ((m ≠ n ∧ 2 ≤ L ∧ L ≤ n) ∧ isFree (P L) = true)) (hle : m ≤ n) : liftR P n k (n - m) L last = none := by
  by_cases h0 : n - m = 0
  · rw [h0]; rfl
  · obtain ⟨f, hf⟩ : ∃ f, n - m = f + 1 := ⟨n - m - 1, by omega⟩
    rw [hf, liftR, if_neg]
    intro hh
    exact h ⟨⟨by omega, hh.1, hh.2.1⟩, hh.2.2⟩
theorem liftR_some {P : Nat → List UInt8} {n k m L last : Nat} (h : (m ≠ n ∧ 2 ≤ L ∧ L ≤ n) ∧ isFree (P L) = true) (hle : m ≤ n) : liftR P n k (n - m) L last = if L = k then some (last, linkV (P L)) else liftR P n k (n - (m + 1)) (linkV (P L)) L := by
  obtain ⟨⟨h1, h2, h3⟩, h4⟩ := h
  obtain ⟨f, hf⟩ : ∃ f, n - m = f + 1 := ⟨n - m - 1, by omega⟩
  rw [hf, liftR, if_pos ⟨h2, h3, h4⟩, show n - (m + 1) = f by omega]
theorem mt_stop (w wr : World) (A M C B LB L m n t last lk pm : Nat) {P : Nat → List UInt8} {K : Nat} {b : Bool} (hi : LfI w wr A M C B LB L m n t last lk) (ht : Tr sv wr t pm n P K b) (hok : ¬ ((m ≠ n ∧ 2 ≤ L ∧ L ≤ n) ∧ isFree (P L) = true)) :
    ∃ E : Int, (E = 0 ∨ E = 8) ∧ Calls Tryz.prog 122 #[.pointer (some ⟨A, 0, none⟩), .pointer (some ⟨M, 0, none⟩), .pointer (some ⟨C, 0, none⟩), .pointer (some ⟨B, 0, none⟩)] wr fun e w' => e = .returned (.tuple #[.agg #[.int .i64 0, .int .u32 0], .int .i64 E]) ∧ Below w.heap.size w w' := by
  by_cases h0 : L = 0
  · refine ⟨0, .inl rfl, ?_⟩
    have hm := hi.mt
    rw [h0] at hm
    exact (mt_end wr A M C B m n t hm).mono fun e w' hh => ⟨hh.1, below_trans hi.bel hh.2⟩
  · refine ⟨8, .inr rfl, ?_⟩
    by_cases hf : m = n ∨ ¬ (2 ≤ L ∧ L ≤ n)
    · exact (mt_far wr A M C B L m n t hi.lt h0 hi.mt hf).mono fun e w' hh => ⟨hh.1, below_trans hi.bel hh.2⟩
    · have h1 : m ≠ n ∧ 2 ≤ L ∧ L ≤ n := by omega
      have hfr : isFree (P L) = false := by
        cases hq : isFree (P L) with
        | false => rfl
        | true => exact absurd ⟨h1, hq⟩ hok
      have := ht.few
      exact (mt_meet wr A M C B L m n t pm ht hi.lt hi.mt h1.1 h1.2.1 h1.2.2 (by have := hi.le; omega)).mono fun e w' hh => ⟨(hh.2 hfr).1, below_only hi.bel (hh.2 hfr).2.2 (two_in hi.a hi.mm)⟩
/-- A number that lies in a block. -/
def cellN (w : World) (b : Nat) : Nat := match w.cell? ⟨b, 0, none⟩ with
  | some v => (intOf v).toNat
  | none => 0
theorem MtB.num {w : World} {A M C B L m n t : Nat} (h : MtB w A M C B L m n t) : cellN w M = m := by
  unfold cellN
  rw [show w.cell? ⟨M, 0, none⟩ = some (.int .i64 (m : Int)) from h.m.cell 0]
  simp [intOf]
theorem LfI.later {w wr w' : World} {A M C B LB L m n t last lk : Nat} (h : LfI w wr A M C B LB L m n t last lk) (hb : Below wr.heap.size wr w') : LfI w w' A M C B LB L m n t last lk :=
  ⟨below_trans h.bel hb, h.mt.later hb, Blk.later h.lb hb, h.a, h.mm, h.l, h.lt, h.one, h.le⟩
theorem LfI.step {w wr w8 W9 : World} {A M C B LB L m n t last lk X : Nat} (hi : LfI w wr A M C B LB L m n t last lk) (hm : MtB w8 A M C B X (m + 1) n t) (ho : Only [A, M] wr w8) (hX : X < 4294967296) (hmn : m ≠ n) {o : Obj} (ho9 : Only [w8.heap.size] (w8.alloc o) W9) : LfI w W9 A M C B LB X (m + 1) n t last lk := by
  have h1 := below_only hi.bel ho (two_in hi.a hi.mm)
  have h2 : Below w.heap.size w W9 := below_only1 (below_trans h1 (below_alloc _ _)) ho9 h1.size
  have k : ∀ {b : Nat} {c : Array Value} {ty : TypeId}, Blk w8 b c ty → Blk W9 b c ty := fun {b c ty} hb => Blk.only (Blk.later hb (below_alloc _ _)) ho9 (by have := Blk.lt hb; simp; omega)
  have hne := hi.ne
  exact ⟨h2, ⟨k hm.a, k hm.m, k hm.c, k hm.b, hm.mc⟩, k (Blk.only hi.lb ho (by simp; omega)), hi.a, hi.mm, hi.l, hX, by omega, by have := hi.le; omega⟩
theorem LfI.cells {w wr : World} {A M C B LB L m n t last lk : Nat} (h : LfI w wr A M C B LB L m n t last lk) : wr.cell? ⟨LB, 0, none⟩ = some (.int .i64 (last : Int)) ∧ wr.cell? ⟨LB, 1, none⟩ = some (.int .u32 (lk : Int)) := ⟨h.lb.cell 0, h.lb.cell 1⟩
theorem LfI.put {w wr W : World} {A M C B LB L m n t last lk a b : Nat} (h : LfI w wr A M C B LB L m n t last lk) (hb : Blk W LB #[.int .i64 (a : Int), .int .u32 (b : Int)] 111) (ho : Only [LB] wr W) : LfI w W A M C B LB L m n t a b := by
  have hne := h.ne
  have k : ∀ {b : Nat} {c : Array Value} {ty : TypeId}, Blk wr b c ty → b ≠ LB → Blk W b c ty := fun {b c ty} hb hn => Blk.only hb ho (by simpa using hn)
  exact ⟨below_only1 h.bel ho h.l, ⟨k h.mt.a (Ne.symm hne.1), k h.mt.m (Ne.symm hne.2.1), k h.mt.c (Ne.symm hne.2.2.1), k h.mt.b (Ne.symm hne.2.2.2), h.mt.mc⟩, hb, h.a, h.mm, h.l, h.lt, h.one, h.le⟩
theorem lift_first {w w' : World} {F L : Nat} {N : Nat → Nat} (h : FstB w F L N) (hb : Below w.heap.size w w') (X : Nat) : Only [F] w (w'.setCell ⟨F, 0, none⟩ (.int .u32 (X : Int))) ∧ FstB (w'.setCell ⟨F, 0, none⟩ (.int .u32 (X : Int))) F X N :=
  ⟨Only.after_below hb (Only.setCell w' ⟨F, 0, none⟩ _), fst_link (Blk.later h hb) X⟩
end Go.Proofs.YthgclfhfipfknaaGreat

namespace Go.Proofs.YthgclfhfipfknaaGreat
variable {sv : Value}
open Go.ChangeShapes Go.WideShapes Go.ChangeAt Go.RowKit Go.Maps
set_option linter.unusedVariables false

/-- The free pages, from a link on. -/
noncomputable def freeR (P : Nat → List UInt8) (n : Nat) : Nat → Nat → Option (List Nat)
  | 0, L => if L = 0 then some [] else none
  | f + 1, L => if L = 0 then some [] else if 2 ≤ L ∧ L ≤ n ∧ isFree (P L) = true then (freeR P n f (linkV (P L))).map (L :: ·) else none
def inL (G : List Nat) : List Value := G.map fun (i : Nat) => Value.int .i64 (i : Int)
theorem int_info : ∃ i, Tryz.prog.info? 3 = some i ∧ i.zero = some (.int .i64 0) ∧ i.size = 1 ∧ i.bytes = 8 := by
  have h : (Tryz.prog.info? 3).map (fun i => (i.zero, i.size, i.bytes)) = some (some (.int .i64 0), 1, 8) := by kernel_rfl
  obtain ⟨i, h1, h2⟩ := Option.map_eq_some_iff.1 h
  simp only [Prod.mk.injEq] at h2
  exact ⟨i, h1, h2.1, h2.2.1, h2.2.2⟩
theorem one_int (s : Int) : ∀ u ∈ [Value.int .i64 s], u.oneCell' = true := by
  intro u hu
  simp at hu
  rw [hu]; rfl
/-- Numbers are appended to a row that is owned. -/
theorem wp_appI {ops : Array Oper} {rest : List Oper} {o : Oper} {a : Act} {Q : Exit → Act → World → Prop} {w : World} {base n : Nat} {v : Value} {xs : List Value} (hown : w.ownsRow base 3 1 v n xs) {ad : Addr} {m c : Nat} {news : List Value}
    (hl : news.length = m * 1) (hnews : ∀ j u, news[j]? = some u → w.cell? (ad.add j) = some u) (h1 : ∀ u ∈ news, u.oneCell' = true) (hn : (n + m) * 8 ≤ 140737488355328) (hbase : base ≤ w.heap.size) (s z : Operand)
    (hgd : o.guard = none) (ho : o.op = .call { callee := .builtin .append, args := #[s, z], argTypes := #[27, 27] }) (hs : a.eval s = v) (hz : a.eval z = .slice (some ad) m c)
    (hk : ∀ v' w', w'.ownsRow base 3 1 v' (n + m) (xs ++ news) → (∀ A, Below base A w → Below base A w') → wpList Tryz.prog ops Q rest (a.put o.dst v') w') : wpList Tryz.prog ops Q (o :: rest) a w := by
  obtain ⟨i, hi, hz0, hsz, hby⟩ := int_info
  refine wpList_append_own w hgd s z 27 ho base 3 i _ 1 8 Tryz.underlying27 hi hz0 hsz hby rfl (by omega) v n xs hs hown ad m c news hz hl hnews h1 (by simp only [maxLen]; omega) hn hbase (fun v' w' h2 h3 h4 => hk v' w' h2 (fun A hA => hA.grown h3 hbase (fun k e => ?_)))
  rcases hown.2 with ⟨rfl, _⟩ | ⟨g, cap, cur, rfl, hbg, _⟩
  · cases e
  · simp only [Value.ownBlock, Option.some.injEq] at e
    omega
theorem own_only {w w' : World} {base e size n : Nat} {v : Value} {xs : List Value} {S : List Nat} (h : w.ownsRow base e size v n xs) (ho : Only S w w') (hS : ∀ k ∈ S, k < base) : w'.ownsRow base e size v n xs := by
  refine ⟨h.1, ?_⟩
  rcases h.2 with hn | ⟨g, cap, cur, rfl, hb, hgg, rest⟩
  · exact .inl hn
  · refine .inr ⟨g, cap, cur, rfl, hb, ?_, rest⟩
    rw [ho.block g (Array.getElem?_eq_some_iff.1 hgg).1 (fun hm => by have := hS _ hm; omega)]
    exact hgg
/-- The state of Free's loop. -/
structure FrI (w wr : World) (A M C B base L m n t : Nat) (v : Value) (G : List Nat) : Prop where
  bel : Below w.heap.size w wr
  mt : MtB wr A M C B L m n t
  own : wr.ownsRow base 3 1 v G.length (inL G)
  a : w.heap.size ≤ A ∧ A < base
  mm : w.heap.size ≤ M ∧ M < base
  c : C < base
  b : B < base
  sz : base ≤ wr.heap.size
  lt : L < 4294967296
  one : 1 ≤ m
  le : m ≤ n
  len : G.length + 1 ≤ m
theorem freeR_end {P : Nat → List UInt8} {n f : Nat} : freeR P n f 0 = some [] := by cases f <;> simp [freeR]
theorem freeR_none {P : Nat → List UInt8} {n m L : Nat} (h0 : L ≠ 0) (h : ¬ ((m ≠ n ∧ 2 ≤ L ∧ L ≤ n) ∧ isFree (P L) = true)) (hle : m ≤ n) : freeR P n (n - m) L = none := by
  by_cases h1 : n - m = 0
  · rw [h1, freeR, if_neg h0]
  · obtain ⟨f, hf⟩ : ∃ f, n - m = f + 1 := ⟨n - m - 1, by omega⟩
    rw [hf, freeR, if_neg h0, if_neg]
    intro hh
    exact h ⟨⟨by omega, hh.1, hh.2.1⟩, hh.2.2⟩
theorem freeR_some {P : Nat → List UInt8} {n m L : Nat} (h : (m ≠ n ∧ 2 ≤ L ∧ L ≤ n) ∧ isFree (P L) = true) (hle : m ≤ n) : freeR P n (n - m) L = (freeR P n (n - (m + 1)) (linkV (P L))).map (L :: ·) := by
  obtain ⟨⟨h1, h2, h3⟩, h4⟩ := h
  obtain ⟨f, hf⟩ : ∃ f, n - m = f + 1 := ⟨n - m - 1, by omega⟩
  rw [hf, freeR, if_neg (by omega), if_pos ⟨h2, h3, h4⟩, show n - (m + 1) = f by omega]
theorem mt_bad (w wr : World) (A M C B L m n t pm base : Nat) {v : Value} {G : List Nat} {P : Nat → List UInt8} {K : Nat} {b : Bool} (hi : FrI w wr A M C B base L m n t v G) (ht : Tr sv wr t pm n P K b) (h0 : L ≠ 0) (hok : ¬ ((m ≠ n ∧ 2 ≤ L ∧ L ≤ n) ∧ isFree (P L) = true)) :
    Calls Tryz.prog 122 #[.pointer (some ⟨A, 0, none⟩), .pointer (some ⟨M, 0, none⟩), .pointer (some ⟨C, 0, none⟩), .pointer (some ⟨B, 0, none⟩)] wr fun e w' => e = .returned (.tuple #[.agg #[.int .i64 0, .int .u32 0], .int .i64 8]) ∧ Below w.heap.size w w' := by
  by_cases hf : m = n ∨ ¬ (2 ≤ L ∧ L ≤ n)
  · exact (mt_far wr A M C B L m n t hi.lt h0 hi.mt hf).mono fun e w' hh => ⟨hh.1, below_trans hi.bel hh.2⟩
  · have h1 : m ≠ n ∧ 2 ≤ L ∧ L ≤ n := by omega
    have hfr : isFree (P L) = false := by
      cases hq : isFree (P L) with
      | false => rfl
      | true => exact absurd ⟨h1, hq⟩ hok
    have := ht.few
    exact (mt_meet wr A M C B L m n t pm ht hi.lt hi.mt h1.1 h1.2.1 h1.2.2 (by have := hi.le; omega)).mono fun e w' hh => ⟨(hh.2 hfr).1, below_only hi.bel (hh.2 hfr).2.2 (two_in hi.a.1 hi.mm.1)⟩
theorem FrI.later {w wr w' : World} {A M C B base L m n t : Nat} {v : Value} {G : List Nat} (h : FrI w wr A M C B base L m n t v G) (hb : Below wr.heap.size wr w') : FrI w w' A M C B base L m n t v G :=
  ⟨below_trans h.bel hb, h.mt.later hb, own_only h.own (Only.of_below (S := []) hb) (by simp), h.a, h.mm, h.c, h.b, Nat.le_trans h.sz hb.size, h.lt, h.one, h.le, h.len⟩
theorem FrI.step {w wr w8 W9 : World} {A M C B base L m n t X : Nat} {v : Value} {G : List Nat} (hi : FrI w wr A M C B base L m n t v G) (hm : MtB w8 A M C B X (m + 1) n t) (ho : Only [A, M] wr w8) (hX : X < 4294967296) (hmn : m ≠ n) {o : Obj} (ho9 : Only [w8.heap.size] (w8.alloc o) W9) : FrI w W9 A M C B base X (m + 1) n t v G := by
  have h1 := below_only hi.bel ho (two_in hi.a.1 hi.mm.1)
  have h2 : Below w.heap.size w W9 := below_only1 (below_trans h1 (below_alloc _ _)) ho9 h1.size
  have k : ∀ {b : Nat} {c : Array Value} {ty : TypeId}, Blk w8 b c ty → Blk W9 b c ty := fun {b c ty} hb => Blk.only (Blk.later hb (below_alloc _ _)) ho9 (by have := Blk.lt hb; simp; omega)
  have o1 := own_only hi.own ho (fun k hk => by have := hi.a.2; have := hi.mm.2; simp at hk; omega)
  have s1 := ho.size
  have s2 := ho9.size
  simp only [World.alloc] at s2
  have o2 : W9.ownsRow base 3 1 v G.length (inL G) := by
    refine ⟨o1.1, ?_⟩
    rcases o1.2 with hn | ⟨g, cap, cur, rfl, hb, hgg, rest⟩
    · exact .inl hn
    · exact .inr ⟨g, cap, cur, rfl, hb, ho9.blk (((below_alloc w8 o).block g (Array.getElem?_eq_some_iff.1 hgg).1).trans hgg) (by have := (Array.getElem?_eq_some_iff.1 hgg).1; simp; omega), rest⟩
  exact ⟨h2, ⟨k hm.a, k hm.m, k hm.c, k hm.b, hm.mc⟩, o2, hi.a, hi.mm, hi.c, hi.b, by have := hi.sz; have := ho9.size; simp at this; omega, hX, by omega, by have := hi.le; omega, by have := hi.len; omega⟩
theorem FrI.app {w wr w' : World} {A M C B base L m n t k : Nat} {v v' : Value} {G : List Nat} (hi : FrI w wr A M C B base L m n t v G) (hlen : G.length + 2 ≤ m) (ho : w'.ownsRow base 3 1 v' (G.length + 1) (inL G ++ [.int .i64 (k : Int)])) (hb : Below base wr w') (hs : w.heap.size ≤ base) : FrI w w' A M C B base L m n t v' (G ++ [k]) := by
  have kk : ∀ {b : Nat} {c : Array Value} {ty : TypeId}, Blk wr b c ty → b < base → Blk w' b c ty := fun {b c ty} hh hn => (hb.block _ hn).trans hh
  exact ⟨hi.bel.trans (hb.mono hs), ⟨kk hi.mt.a hi.a.2, kk hi.mt.m hi.mm.2, kk hi.mt.c hi.c, kk hi.mt.b hi.b, hi.mt.mc⟩, by simpa [inL] using ho, hi.a, hi.mm, hi.c, hi.b, Nat.le_trans hi.sz hb.size, hi.lt, hi.one, hi.le, by simp; omega⟩
end Go.Proofs.YthgclfhfipfknaaGreat
