/- What Insert, Delete, SetLink and Told answer, as functions; blocks that a law keeps. -/
import Derived.Test.YthhoeabenngiiaaNE
import Derived.Test.YthhoeabenngiiaaNF
namespace Go.Proofs.Ythhoeabenngiiaa
open Go.ChangeShapes Go.WideShapes Go.ChangeAt Go.RowKit
set_option linter.unusedVariables false

/-- What Told answers. -/
def tl (k L n : Nat) (S : Nat → ByteArray) : List UInt8 := if n + (cat S n).length ≤ 250 then pageL k L n S else zs
def te (n : Nat) (S : Nat → ByteArray) : Int := if n + (cat S n).length ≤ 250 then 0 else 5
theorem tl_length (k L n : Nat) (S : Nat → ByteArray) : (tl k L n S).length = 256 := by
  unfold tl
  split
  · exact pageL_length ‹_›
  · exact zs_length
theorem ToldIs.eq {k L n : Nat} {S : Nat → ByteArray} {l : List UInt8} {x : Int} (h : ToldIs k L n S l x) : l = tl k L n S ∧ x = te n S := by
  unfold ToldIs at h
  unfold tl te
  by_cases hc : n + (cat S n).length ≤ 250
  · rw [if_pos hc] at h; rw [if_pos hc, if_pos hc]; exact h
  · rw [if_neg hc] at h; rw [if_neg hc, if_neg hc]; exact h
theorem told_is (is : Bool) (k L : Nat) (hk : k < 256) (hL : L < 4294967296) (p : Option Addr) (n cap : Nat) (S : Nat → ByteArray) (hs : n + (cat S n).length ≤ 140737488355328) (w : World) (h : StrP w p n S) :
    Calls Try.prog 23 #[bodyV is (k : Int) (L : Int) (.slice p n cap)] w fun e w' => e = .returned (.tuple #[.agg (bc (tl k L n S)), .int .i64 (te n S)]) ∧ Below w.heap.size w w' :=
  (told_any is k L hk hL p n cap S hs w h).mono fun e w' ⟨⟨l, hl, x, ht, he⟩, hb⟩ => ⟨by rw [he, ht.eq.1, ht.eq.2], hb⟩
open Classical in
noncomputable def inE (l : List UInt8) (i : Int) (c : ByteArray) : Int := if okB l then (if cErr 1 (fun _ => c) ≠ 0 then cErr 1 (fun _ => c) else if i < 0 ∨ (byt l 1 : Int) < i then 4 else te (byt l 1 + 1) (putS (cellS l) i.toNat c)) else 8
open Classical in
noncomputable def inL (l : List UInt8) (i : Int) (c : ByteArray) : List UInt8 := if okB l ∧ cErr 1 (fun _ => c) = 0 ∧ ¬ (i < 0 ∨ (byt l 1 : Int) < i) then tl (byt l 0) (lnk l) (byt l 1 + 1) (putS (cellS l) i.toNat c) else zs
theorem inL_length (l : List UInt8) (i : Int) (c : ByteArray) : (inL l i c).length = 256 := by
  unfold inL
  split
  · exact tl_length _ _ _ _
  · exact zs_length
theorem insert_any (l : List UInt8) (hl : l.length = 256) (i : Int) (c : ByteArray) (w : World) :
    Calls Try.prog 20 #[.agg (bc l), .int .i64 i, .string c] w fun e w' => e = .returned (.tuple #[.agg (bc (inL l i c)), .int .i64 (inE l i c)]) ∧ Below w.heap.size w w' := by
  unfold inL inE
  by_cases ho : okB l
  · by_cases hE : cErr 1 (fun _ => c) = 0
    · by_cases hi : i < 0 ∨ (byt l 1 : Int) < i
      · rw [if_neg (fun h => h.2.2 hi), if_pos ho, if_neg (fun h => h hE), if_pos hi]
        exact insert_place l hl ho i c hE hi w
      · rw [if_pos ⟨ho, hE, hi⟩, if_pos ho, if_neg (fun h => h hE), if_neg hi]
        obtain ⟨m, rfl⟩ : ∃ m : Nat, i = (m : Int) := ⟨i.toNat, by omega⟩
        refine (insert_ok l hl ho m (by omega) c hE w).mono fun e w' ⟨⟨l', _, x, ht, he⟩, hb⟩ => ⟨?_, hb⟩
        rw [he, ht.eq.1, ht.eq.2, Int.toNat_natCast]
    · rw [if_neg (fun h => hE h.2.1), if_pos ho, if_pos hE]
      exact insert_cell l hl ho i c _ rfl hE w
  · rw [if_neg (fun h => ho h.1), if_neg ho]
    exact insert_not l hl ho i c w
open Classical in
noncomputable def outE (l : List UInt8) (i : Int) : Int := if okB l then (if i < 0 ∨ (byt l 1 : Int) - 1 < i then 4 else te (byt l 1 - 1) (outS (cellS l) i.toNat)) else 8
open Classical in
noncomputable def outL (l : List UInt8) (i : Int) : List UInt8 := if okB l ∧ ¬ (i < 0 ∨ (byt l 1 : Int) - 1 < i) then tl (byt l 0) (lnk l) (byt l 1 - 1) (outS (cellS l) i.toNat) else zs
theorem outL_length (l : List UInt8) (i : Int) : (outL l i).length = 256 := by
  unfold outL
  split
  · exact tl_length _ _ _ _
  · exact zs_length
theorem delete_any (l : List UInt8) (hl : l.length = 256) (i : Int) (w : World) :
    Calls Try.prog 21 #[.agg (bc l), .int .i64 i] w fun e w' => e = .returned (.tuple #[.agg (bc (outL l i)), .int .i64 (outE l i)]) ∧ Below w.heap.size w w' := by
  unfold outL outE
  by_cases ho : okB l
  · have hcv : cntV l = byt l 1 := if_pos ho
    by_cases hi : i < 0 ∨ (byt l 1 : Int) - 1 < i
    · rw [if_neg (fun h => h.2 hi), if_pos ho, if_pos hi]
      exact delete_bad l hl i 4 (by unfold plE; rw [if_pos ho, hcv, if_pos hi]) (by omega) w
    · rw [if_pos ⟨ho, hi⟩, if_pos ho, if_neg hi]
      obtain ⟨m, rfl⟩ : ∃ m : Nat, i = (m : Int) := ⟨i.toNat, by omega⟩
      refine (delete_ok l hl ho m (by omega) w).mono fun e w' ⟨⟨l', _, x, ht, he⟩, hb⟩ => ⟨?_, hb⟩
      rw [he, ht.eq.1, ht.eq.2, Int.toNat_natCast]
  · rw [if_neg (fun h => ho h.1), if_neg ho]
    exact delete_bad l hl i 8 (by unfold plE; rw [if_neg ho]) (by omega) w
theorem setLink_is (l : List UInt8) (hl : l.length = 256) (ho : okB l) (L : Nat) (hL : L < 4294967296) (w : World) :
    Calls Try.prog 22 #[.agg (bc l), .int .u32 (L : Int)] w fun e w' => e = .returned (.tuple #[.agg (bc (tl (byt l 0) L (byt l 1) (cellS l))), .int .i64 (te (byt l 1) (cellS l))]) ∧ Below w.heap.size w w' := by
  have := setLink_ok l hl ho L hL w
  rw [setL_page hl ho L] at this
  unfold tl te
  rw [if_pos (ok_room hl ho), if_pos (ok_room hl ho)]
  exact this

abbrev pgO (l : List UInt8) : Obj := .cells (bc l) 23
/-- Blocks that lie in memory. -/
structure Pg (w X : World) (L : List (Nat × Obj)) : Prop where
  here : ∀ q ∈ L, X.heap[q.1]? = some q.2
  nd : (L.map (·.1)).Nodup
  below : Below w.heap.size w X
  base : ∀ q ∈ L, w.heap.size ≤ q.1
theorem Pg.later {w X V : World} {L : List (Nat × Obj)} (h : Pg w X L) (hb : Below X.heap.size X V) : Pg w V L where
  here := fun q hq => (hb.block _ (Array.getElem?_eq_some_iff.1 (h.here q hq)).1).trans (h.here q hq)
  nd := h.nd
  below := below_trans h.below hb
  base := h.base
theorem Pg.lt {w X : World} {L : List (Nat × Obj)} (h : Pg w X L) : ∀ q ∈ L, q.1 < X.heap.size := fun q hq => (Array.getElem?_eq_some_iff.1 (h.here q hq)).1
theorem Pg.new {w X : World} {L : List (Nat × Obj)} (h : Pg w X L) (o : Obj) : Pg w (X.alloc o) ((X.heap.size, o) :: L) where
  here := fun q hq => by
    rcases List.mem_cons.1 hq with rfl | hq
    · exact heap_alloc_new X o
    · rw [Below.heap_alloc _ _ _ (h.lt q hq)]
      exact h.here q hq
  nd := by
    simp only [List.map_cons, List.nodup_cons]
    refine ⟨fun hm => ?_, h.nd⟩
    obtain ⟨q, hq, e⟩ := List.mem_map.1 hm
    have := h.lt q hq
    omega
  below := h.below.alloc h.below.size o
  base := fun q hq => by
    rcases List.mem_cons.1 hq with rfl | hq
    · exact h.below.size
    · exact h.base q hq
/-- The first block is written anew. -/
theorem Pg.put {w X V : World} {g : Nat} {o o' : Obj} {L : List (Nat × Obj)} (h : Pg w X ((g, o) :: L)) (h1 : V.heap[g]? = some o') (h2 : ∀ B A, Below B A X → B ≤ g → Below B A V) (h3 : ∀ k, k ≠ g → V.heap[k]? = X.heap[k]?) : Pg w V ((g, o') :: L) where
  here := fun q hq => by
    rcases List.mem_cons.1 hq with rfl | hq
    · exact h1
    · have hn := h.nd
      simp only [List.map_cons, List.nodup_cons] at hn
      rw [h3 q.1 (fun e => hn.1 (List.mem_map.2 ⟨q, hq, e⟩))]
      exact h.here q (List.mem_cons_of_mem _ hq)
  nd := by simpa using h.nd
  below := h2 _ _ h.below (h.base (g, o) (by simp))
  base := fun q hq => by
    rcases List.mem_cons.1 hq with rfl | hq
    · exact h.base (g, o) (by simp)
    · exact h.base q (List.mem_cons_of_mem _ hq)
theorem Pg.cell {w X : World} {g : Nat} {cs : Array Value} {T : TypeId} {L : List (Nat × Obj)} (h : Pg w X ((g, .cells cs T) :: L)) (i : Nat) (v : Value) : Pg w (X.setCell ⟨g, i, none⟩ v) ((g, .cells (cs.setIfInBounds i v) T) :: L) :=
  h.put (set_block (h.here (g, .cells cs T) (by simp)) i v) (fun B A hb hB => hb.setCell hB _) (fun k hk => Below.heap_setCell _ _ _ _ hk)
theorem Pg.sub {w X : World} {L L' : List (Nat × Obj)} (h : Pg w X L) (hs : L'.Sublist L) : Pg w X L' where
  here := fun q hq => h.here q (hs.subset hq)
  nd := (hs.map _).nodup h.nd
  below := h.below
  base := fun q hq => h.base q (hs.subset hq)
theorem Pg.start (w : World) (o : Obj) : Pg w (w.alloc o) [(w.heap.size, o)] where
  here := fun q hq => by
    obtain rfl : q = (w.heap.size, o) := by simpa using hq
    exact heap_alloc_new w o
  nd := by simp
  below := new_below w o rfl
  base := fun q hq => by
    obtain rfl : q = (w.heap.size, o) := by simpa using hq
    exact Nat.le_refl _
/-- A swap of the first two. -/
theorem Pg.swap {w X : World} {a b : Nat × Obj} {L : List (Nat × Obj)} (h : Pg w X (a :: b :: L)) : Pg w X (b :: a :: L) where
  here := fun q hq => h.here q (by simp at hq ⊢; rcases hq with h | h | h <;> simp [h])
  nd := by
    have := h.nd
    simp only [List.map_cons, List.nodup_cons, List.mem_cons, not_or] at this ⊢
    exact ⟨⟨Ne.symm this.1.1, this.2.1⟩, this.1.2, this.2.2⟩
  below := h.below
  base := fun q hq => h.base q (by simp at hq ⊢; rcases hq with h | h | h <;> simp [h])
theorem neq_page {l : List UInt8} (hl : l.length = 256) (V : World) : (binOp .neq 23 (.agg (bc l)) (.agg (bc l))).run Try.prog V = .ok (.bool false) V := by
  have h := eq_page hl V
  simp only [binOp, Sem.run_bind] at h ⊢
  cases hq : (Op.equal 23 (.agg (bc l)) (.agg (bc l))).run Try.prog V with
  | ok b W =>
    rw [hq] at h
    simp [Result.andThen] at h
    obtain ⟨rfl, rfl⟩ := h
    rfl
  | halt a b => rw [hq] at h; simp [Result.andThen] at h
end Go.Proofs.Ythhoeabenngiiaa
