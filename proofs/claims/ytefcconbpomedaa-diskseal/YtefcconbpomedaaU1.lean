/- What a torn sector says; DiskSeal's memory. -/
import Derived.Test.YtefcconbpomedaaS8a
import Derived.Deep.MidRow
import Derived.Deep.CutRange
import Derived.Handy
import Derived.LoopN
namespace Go.Proofs.Ytefcconbpomedaa
open Go.ChangeShapes Go.WideShapes Go.ChangeAt Go.RowKit
set_option linter.unusedVariables false

/-- Four numbers of 32 bits. -/
structure Q4 where
  a : Nat
  b : Nat
  c : Nat
  d : Nat
def Q4.ok (q : Q4) : Prop := q.a < 4294967296 ∧ q.b < 4294967296 ∧ q.c < 4294967296 ∧ q.d < 4294967296
def Q4.v (q : Q4) : Array Value := #[.int .u32 q.a, .int .u32 q.b, .int .u32 q.c, .int .u32 q.d]
def Q4.s (q : Q4) : List UInt8 := sealB q.a q.b q.c q.d
theorem Q4.s_length (q : Q4) : q.s.length = 64 := length_laid _ _ _ _ 12 (by omega)
theorem says_self (q : Q4) (h : q.ok) : sayV q.s = q.v := say_of _ _ _ _ _ h.1 h.2.1 h.2.2.1 h.2.2.2 (seal_says _ _ _ _)
theorem says_torn (A B : Q4) (hA : A.ok) (hB : B.ok) (t : Nat) (ht : t ≤ 64) : ∃ C : Q4, C.ok ∧ (C = A ∨ C = B) ∧ sayV (cutB A.s B.s t) = C.v ∧ ∀ k, k ≤ 64 → sayV (cutB C.s (cutB A.s B.s t) k) = C.v := by
  have hc := cut_bytes A.s B.s t A.s_length ht
  have key : ∀ C : Q4, C.ok → (C = A ∨ C = B) → saysF (byteAt (cutB A.s B.s t)) (gbF C.a C.b C.c C.d) → ∃ C : Q4, C.ok ∧ (C = A ∨ C = B) ∧ sayV (cutB A.s B.s t) = C.v ∧ ∀ k, k ≤ 64 → sayV (cutB C.s (cutB A.s B.s t) k) = C.v := fun C hC hAB hs => by
    refine ⟨C, hC, hAB, say_of _ _ _ _ _ hC.1 hC.2.1 hC.2.2.1 hC.2.2.2 hs, fun k hk => say_of _ _ _ _ _ hC.1 hC.2.1 hC.2.2.1 hC.2.2.2 ?_⟩
    rw [cut_bytes C.s _ k C.s_length hk, hc]
    rw [hc] at hs
    exact mix_again (seal_bytes A.a A.b A.c A.d) (seal_bytes B.a B.b B.c B.d) (seal_bytes C.a C.b C.c C.d) t hs k
  rcases mix_says (seal_bytes A.a A.b A.c A.d) (seal_bytes B.a B.b B.c B.d) t with h | h
  · exact key A hA (Or.inl rfl) (by rw [hc]; exact h)
  · exact key B hB (Or.inr rfl) (by rw [hc]; exact h)
theorem cut_length (x y : List UInt8) (t : Nat) (hx : x.length = 64) (hy : y.length = 64) (ht : t ≤ 64) : (cutB x y t).length = 64 := length_cutB x y t hx hy ht
open Classical in
theorem neq_q (A B : Q4) (w : World) : (binOp .neq 40 (.agg A.v) (.agg B.v)).run Try.prog w = .ok (.bool (decide (A ≠ B))) w := by
  unfold Q4.v
  rw [neq_words]
  congr 2
  rw [Bool.eq_iff_iff]
  simp only [Bool.not_eq_true', Bool.and_eq_false_iff, beq_eq_false_iff_ne, ne_eq, decide_eq_true_eq]
  constructor
  · rintro h rfl
    rcases h with ((h | h) | h) | h <;> exact h rfl
  · intro h
    by_cases h1 : A.a = B.a
    · by_cases h2 : A.b = B.b
      · by_cases h3 : A.c = B.c
        · by_cases h4 : A.d = B.d
          · exact absurd (by cases A; cases B; simp_all) h
          · right; omega
        · left; right; omega
      · left; left; right; omega
    · left; left; left; omega
theorem neq_no (A : Q4) (w : World) : (binOp .neq 40 (.agg A.v) (.agg A.v)).run Try.prog w = .ok (.bool false) w := by rw [neq_q]; simp
theorem neq_yes {A B : Q4} (h : A ≠ B) (w : World) : (binOp .neq 40 (.agg A.v) (.agg B.v)).run Try.prog w = .ok (.bool true) w := by rw [neq_q]; simp [h]

theorem cell_laterD {w w' : World} (b : Below w.heap.size w w') {a : Addr} {v : Value} (h : w.cell? a = some v) : w'.cell? a = some v := by
  rw [World.cell?_of_block (w := w) (b.block a.block (World.block_lt_of_cell? w a h))]; exact h
theorem range_later {w w' : World} (b : Below w.heap.size w w') {g o : Nat} {cs : List Value} (h : w.rangeAt g o cs) : w'.rangeAt g o cs := fun j v hv => cell_laterD b (h j v hv)
theorem bel_grown {w w' : World} (h : w.grownBy w' none) : Below w.heap.size w w' := (Only.of_grown h).below (Nat.le_refl _) (by simp)
theorem bel_trans {w w1 w2 : World} (h : Below w.heap.size w w1) (k : Below w1.heap.size w1 w2) : Below w.heap.size w w2 := h.trans (k.mono h.size)
theorem bel_new (w : World) (o : Obj) : Below w.heap.size w (w.alloc o) := (Below.refl _ _).alloc (Nat.le_refl _) o
theorem hideD {p : Prop} (h : p) : Hid p := h
/-- What DiskSeal keeps in memory. -/
structure Mm (w V : World) (bx b' : Nat) (A B : Q4) : Prop where
  below : Below w.heap.size w V
  x : V.rangeAt bx 0 (bcs A.s)
  y : V.rangeAt b' 0 (bcs B.s)
  p : V.rangeAt w.heap.size 0 A.v.toList
  q : V.rangeAt (w.heap.size + 1) 0 B.v.toList
theorem Mm.later {w V V' : World} {bx b' : Nat} {A B : Q4} (h : Mm w V bx b' A B) (hb : Below V.heap.size V V') : Mm w V' bx b' A B where
  below := bel_trans h.below hb
  x := range_later hb h.x
  y := range_later hb h.y
  p := range_later hb h.p
  q := range_later hb h.q
theorem ar42 : Try.prog.underlying 42 = some (.array 64 5) := Try.underlying42
theorem ar40 : Try.prog.underlying 40 = some (.array 4 38) := Try.underlying40
theorem i42 {l : List UInt8} (hl : l.length = 64) : (Try.prog.info? 42).map (·.size) = some (bcs l).length := by rw [length_bcs, hl]; exact info42s
theorem i40 (q : Q4) : (Try.prog.info? 40).map (·.size) = some q.v.toList.length := info40s
/-- A sector, numbers loaded whole. -/
theorem wp_loadS {ops : Array Oper} {rest : List Oper} {o : Oper} {a : Act} {Q : Exit → Act → World → Prop} {w : World} {g : Nat} {l : List UInt8} (hl : l.length = 64) (hg : w.rangeAt g 0 (bcs l)) (x : Operand)
    (hgd : o.guard = none) (ho : o.op = .load 42 x) (hx : a.eval x = .pointer (some ⟨g, 0, none⟩)) (h : wpList Try.prog ops Q rest (a.put o.dst (.agg (bcs l).toArray)) w) : wpList Try.prog ops Q (o :: rest) a w :=
  wpList_load_mid hgd 42 x ho g 0 hx (bcs l) _ hg ar42 rfl (i42 hl) h
theorem wp_loadQ {ops : Array Oper} {rest : List Oper} {o : Oper} {a : Act} {Q : Exit → Act → World → Prop} {w : World} {g : Nat} {q : Q4} (hg : w.rangeAt g 0 q.v.toList) (x : Operand)
    (hgd : Region.wanted o (yielded ops a.tmps) = true) (ho : o.op = .load 40 x) (hx : a.eval x = .pointer (some ⟨g, 0, none⟩)) (h : wpList Try.prog ops Q rest (a.put o.dst (.agg q.v)) w) : wpList Try.prog ops Q (o :: rest) a w := by
  refine wpList_step fun K hK => ?_
  rw [if_pos hgd]
  exact wp_load_mid 40 x ho g 0 hx q.v.toList _ hg ar40 rfl (i40 q) (hK _ _ h)
/-- A sector stored whole into a new block. -/
theorem wp_storeS {ops : Array Oper} {rest : List Oper} {o : Oper} {a : Act} {Q : Exit → Act → World → Prop} {w : World} {g : Nat} {l : List UInt8} (hl : l.length = 64) {z : Array Value} (hz : z.size = 64) (hg : w.heap[g]? = some (.cells z 42)) (x y : Operand)
    (hgd : o.guard = none) (ho : o.op = .store 42 x y) (hx : a.eval x = .pointer (some ⟨g, 0, none⟩)) (hy : a.eval y = .agg (bcs l).toArray)
    (h : ∀ W', W'.rangeAt g 0 (bcs l) → (∀ B A, Below B A w → B ≤ g → Below B A W') → wpList Try.prog ops Q rest (a.put o.dst undef) W') : wpList Try.prog ops Q (o :: rest) a w := by
  have hs : (Try.prog.info? 42).map (·.size) = some (bcs l).toArray.size := by rw [List.size_toArray]; exact i42 hl
  refine wpList_store_row hgd 42 x y ho g (bcs l).toArray hx hy 42 z hg hs (by rw [hz]; simp [length_bcs, hl]) ?_ (h _ ?_ ?_)
  · rw [Array.all_eq_true_iff_forall_mem]
    intro v hv
    exact one_bcs l v (by simpa using hv)
  · intro j v hv
    have hb := setRow_heap w g _ (bcs l).toArray _ _ hg
    rw [cell_of_row _ _ _ _ _ _ hb, Nat.zero_add]
    simpa using hv
  · intro B A hb hB
    exact hb.trans ⟨rfl, rfl, rfl, by simp [World.setRow], fun k hk => by
      simp only [World.setRow]
      rw [Array.getElem?_modify, if_neg (by omega)]⟩
/-- Numbers stored whole into a new block. -/
theorem wp_storeQ {ops : Array Oper} {rest : List Oper} {o : Oper} {a : Act} {Q : Exit → Act → World → Prop} {w : World} {g : Nat} {q : Q4} {z : Array Value} (hz : z.size = 4) (hg : w.heap[g]? = some (.cells z 40)) (x y : Operand)
    (hgd : o.guard = none) (ho : o.op = .store 40 x y) (hx : a.eval x = .pointer (some ⟨g, 0, none⟩)) (hy : a.eval y = .agg q.v)
    (h : ∀ W', W'.rangeAt g 0 q.v.toList → (∀ B A, Below B A w → B ≤ g → Below B A W') → wpList Try.prog ops Q rest (a.put o.dst undef) W') : wpList Try.prog ops Q (o :: rest) a w := by
  refine wpList_store_row hgd 40 x y ho g q.v hx hy 40 z hg info40s (by rw [hz]; rfl) (by simp [Q4.v, Value.oneCell']) (h _ ?_ ?_)
  · intro j v hv
    have hb := setRow_heap w g _ q.v _ _ hg
    rw [cell_of_row _ _ _ _ _ _ hb, Nat.zero_add]
    simpa using hv
  · intro B A hb hB
    exact hb.trans ⟨rfl, rfl, rfl, by simp [World.setRow], fun k hk => by
      simp only [World.setRow]
      rw [Array.getElem?_modify, if_neg (by omega)]⟩
theorem atL42 {P : Program} {ops : Array Oper} {Q : Exit → Act → World → Prop} {rest : List Oper} {a : Act} {w : World} {d : Option Nat} {x : Operand} {t : TypeId} {ps : String} {af : Array Edge} {g : Option (Nat × Bool)} (h : wpList P ops Q (⟨d, .load 42 x, t, ps, af, g⟩ :: rest) a w) : wpList P ops Q (⟨d, .load 42 x, t, ps, af, g⟩ :: rest) a w := h
theorem atL40 {P : Program} {ops : Array Oper} {Q : Exit → Act → World → Prop} {rest : List Oper} {a : Act} {w : World} {d : Option Nat} {x : Operand} {t : TypeId} {ps : String} {af : Array Edge} {g : Option (Nat × Bool)} (h : wpList P ops Q (⟨d, .load 40 x, t, ps, af, g⟩ :: rest) a w) : wpList P ops Q (⟨d, .load 40 x, t, ps, af, g⟩ :: rest) a w := h
theorem atS42 {P : Program} {ops : Array Oper} {Q : Exit → Act → World → Prop} {rest : List Oper} {a : Act} {w : World} {d : Option Nat} {x y : Operand} {t : TypeId} {ps : String} {af : Array Edge} {g : Option (Nat × Bool)} (h : wpList P ops Q (⟨d, .store 42 x y, t, ps, af, g⟩ :: rest) a w) : wpList P ops Q (⟨d, .store 42 x y, t, ps, af, g⟩ :: rest) a w := h
theorem atS40 {P : Program} {ops : Array Oper} {Q : Exit → Act → World → Prop} {rest : List Oper} {a : Act} {w : World} {d : Option Nat} {x y : Operand} {t : TypeId} {ps : String} {af : Array Edge} {g : Option (Nat × Bool)} (h : wpList P ops Q (⟨d, .store 40 x y, t, ps, af, g⟩ :: rest) a w) : wpList P ops Q (⟨d, .store 40 x y, t, ps, af, g⟩ :: rest) a w := h
end Go.Proofs.Ytefcconbpomedaa
