/- Runs that are joined; a cell taken out. -/
import Derived.Test.YthhoeabenngiiaaNB
namespace Go.Proofs.Ythhoeabenngiiaa
open Go.ChangeShapes Go.WideShapes Go.ChangeAt Go.RowKit
set_option linter.unusedVariables false

/-- A page, stored whole, as a step of a region that draws. -/
theorem step_storeP {ops : Array Oper} {o : Oper} {a : Act} {w : World} {K : Act → World → Prop} {Q : Exit → Act → World → Prop} {E : Prop} {g : Nat} {l l0 : List UInt8} (hl : l.length = 256) (hl0 : l0.length = 256) (hg : PAt w g l0) (x y : Operand)
    (hgd : o.guard = none) (ho : o.op = .store 23 x y) (hx : a.eval x = .pointer (some ⟨g, 0, none⟩)) (hy : a.eval y = .agg (bc l))
    (h : ∀ W', PAt W' g l → (∀ B A, Below B A w → B ≤ g → Below B A W') → (∀ k, k ≠ g → W'.heap[k]? = w.heap[k]?) → K (a.put o.dst undef) W') : if Region.wanted o (yielded ops a.tmps) = true then Oper.wp Try.prog o a w K Q else E := by
  have hw : Region.wanted o (yielded ops a.tmps) = true := by simp [Region.wanted, hgd]
  rw [if_pos hw]
  exact wp_store_row 23 x y ho g (bc l) hx hy 23 (bc l0) hg (page_size hl) (by rw [bc_size, bc_size, hl, hl0]) (bc_one l) (h _ hg.row (fun B A hb hB => below_setRow hb hB _) (fun k hk => heap_setRow _ _ _ _ hk))
/-- What joined answers of runs, whose cells are these. -/
theorem joined_told (k L : Nat) (hk : k < 256) (hL : L < 4294967296) (m : Nat) (A B : Nat → ByteArray) (n : Nat) (S : Nat → ByteArray) (hA : cat A m = cat (fun i => lenS (S i)) n) (hB : cat B m = cat S n) (hs : n + (cat S n).length ≤ 1000000000) (hm : m ≤ 1000000000) :
    ∃ l e, l.length = 256 ∧ ToldIs k L n S l e ∧ ∀ (b o cap : Nat) (V : World), RunsAt V b o m A B → Calls Try.prog 37 #[.int .u8 (k : Int), .int .u32 (L : Int), .slice (some ⟨b, o, none⟩) m cap] V fun e' w' => e' = .returned (.tuple #[.agg (bc l), .int .i64 e]) ∧ Below V.heap.size V w' := by
  have hn : (cat A m).length = n := by rw [hA, cat_lenS]
  by_cases hf : n + (cat S n).length ≤ 250
  · refine ⟨pageL k L n S, 0, pageL_length hf, by unfold ToldIs; rw [if_pos hf]; exact ⟨rfl, rfl⟩, fun b o cap V hV => ?_⟩
    have := joined_fits k L hk hL b o m cap A B (by rw [hn, hB]; exact hf) hm V hV
    rwa [joined_page k L n m A B S hA hB] at this
  · refine ⟨zs, 5, zs_length, by unfold ToldIs; rw [if_neg hf]; exact ⟨rfl, rfl⟩, fun b o cap V hV => ?_⟩
    exact joined_full k L b o m cap A B (by rw [hn, hB]; exact hs) hm (by rw [hn, hB]; omega) V hV
/-- Cells without one, with one more, one behind the other. -/
def outS (S : Nat → ByteArray) (i t : Nat) : ByteArray := if t < i then S t else S (t + 1)
def putS (S : Nat → ByteArray) (i : Nat) (c : ByteArray) (t : Nat) : ByteArray := if t < i then S t else if t = i then c else S (t - 1)
def twoS (S : Nat → ByteArray) (n : Nat) (S2 : Nat → ByteArray) (t : Nat) : ByteArray := if t < n then S t else S2 (t - n)
theorem cat_out (S : Nat → ByteArray) (i r : Nat) (f : ByteArray → ByteArray) : cat (fun t => f (outS S i t)) (i + r) = cat (fun t => f (S t)) i ++ cat (fun t => f (S (i + 1 + t))) r := by
  rw [cat_add]
  congr 1
  · exact cat_congr fun t ht => by unfold outS; rw [if_pos ht]
  · exact cat_congr fun t ht => by unfold outS; rw [if_neg (by omega), show i + t + 1 = i + 1 + t by omega]
theorem cat_put (S : Nat → ByteArray) (i r : Nat) (c : ByteArray) (f : ByteArray → ByteArray) : cat (fun t => f (putS S i c t)) (i + (1 + r)) = cat (fun t => f (S t)) i ++ ((f c).data.toList ++ cat (fun t => f (S (i + t))) r) := by
  rw [cat_add, cat_add]
  congr 1
  · exact cat_congr fun t ht => by unfold putS; rw [if_pos ht]
  · congr 1
    · simp [cat, putS]
    · exact cat_congr fun t ht => by unfold putS; rw [if_neg (by omega), if_neg (by omega), show i + (1 + t) - 1 = i + t by omega]
theorem cat_two (S S2 : Nat → ByteArray) (n r : Nat) (f : ByteArray → ByteArray) : cat (fun t => f (twoS S n S2 t)) (n + r) = cat (fun t => f (S t)) n ++ cat (fun t => f (S2 t)) r := by
  rw [cat_add]
  congr 1
  · exact cat_congr fun t ht => by unfold twoS; rw [if_pos ht]
  · exact cat_congr fun t ht => by unfold twoS; rw [if_neg (by omega), show n + t - n = t by omega]
def two2 (a b : ByteArray) (t : Nat) : ByteArray := if t = 0 then a else b
def three3 (a b c : ByteArray) (t : Nat) : ByteArray := if t = 0 then a else if t = 1 then b else c
theorem cat_two2 (a b : ByteArray) : cat (two2 a b) 2 = a.data.toList ++ b.data.toList := by simp [cat, two2]
theorem cat_three3 (a b c : ByteArray) : cat (three3 a b c) 3 = a.data.toList ++ (b.data.toList ++ c.data.toList) := by simp [cat, three3]
/-- The lengths and the bytes of a piece. -/
theorem piece_lens {l : List UInt8} (hl : l.length = 256) {i j : Nat} (hij : i ≤ j) (hj : 6 + j ≤ 256) (he : stN l j ≤ 256) : (subS l (6 + i) (j - i)).data.toList = cat (fun t => lenS (cellS l (i + t))) (j - i) := by
  rw [subS_toL, cat_lens hl i (j - i) (by omega) (by rw [show i + (j - i) = j by omega]; exact he)]
theorem piece_bytes {l : List UInt8} {i j : Nat} (hij : i ≤ j) : (subS l (stN l i) (stN l j - stN l i)).data.toList = cat (fun t => cellS l (i + t)) (j - i) := by
  rw [subS_toL, cat_cells, show i + (j - i) = j by omega]
theorem runs2 (V : World) (a b c d : ByteArray) : RunsAt (V.alloc (.cells #[.string a, .string b, .string c, .string d] 64)) V.heap.size 0 2 (two2 a c) (two2 b d) := by
  intro i hi
  have h := heap_alloc_new V (.cells #[.string a, .string b, .string c, .string d] 64)
  rcases (by omega : i = 0 ∨ i = 1) with rfl | rfl
  · exact ⟨by rw [cell_of_row _ _ _ _ _ _ h]; rfl, by rw [cell_of_row _ _ _ _ _ _ h]; rfl⟩
  · exact ⟨by rw [cell_of_row _ _ _ _ _ _ h]; rfl, by rw [cell_of_row _ _ _ _ _ _ h]; rfl⟩
theorem runs3 (V : World) (a b c d e f : ByteArray) : RunsAt (V.alloc (.cells #[.string a, .string b, .string c, .string d, .string e, .string f] 64)) V.heap.size 0 3 (three3 a c e) (three3 b d f) := by
  intro i hi
  have h := heap_alloc_new V (.cells #[.string a, .string b, .string c, .string d, .string e, .string f] 64)
  rcases (by omega : i = 0 ∨ i = 1 ∨ i = 2) with rfl | rfl | rfl
  · exact ⟨by rw [cell_of_row _ _ _ _ _ _ h]; rfl, by rw [cell_of_row _ _ _ _ _ _ h]; rfl⟩
  · exact ⟨by rw [cell_of_row _ _ _ _ _ _ h]; rfl, by rw [cell_of_row _ _ _ _ _ _ h]; rfl⟩
  · exact ⟨by rw [cell_of_row _ _ _ _ _ _ h]; rfl, by rw [cell_of_row _ _ _ _ _ _ h]; rfl⟩
theorem runs1 (V : World) (a b : ByteArray) : RunsAt (V.alloc (.cells #[.string a, .string b] 64)) V.heap.size 0 1 (fun _ => a) (fun _ => b) := by
  intro i hi
  have h := heap_alloc_new V (.cells #[.string a, .string b] 64)
  obtain rfl : i = 0 := by omega
  exact ⟨by rw [cell_of_row _ _ _ _ _ _ h]; rfl, by rw [cell_of_row _ _ _ _ _ _ h]; rfl⟩
theorem cat_one1 (a : ByteArray) : cat (fun _ => a) 1 = a.data.toList := by simp [cat]
theorem ok_small {l : List UInt8} (hl : l.length = 256) (ho : okB l) : byt l 1 ≤ 250 ∧ stN l (byt l 1) ≤ 256 ∧ byt l 0 < 256 ∧ lnk l < 4294967296 := ⟨by have := ho.2.1; omega, ho.2.2.2.1, byt_lt l 0, lnk_lt l⟩
theorem cat_le {l : List UInt8} (hl : l.length = 256) (m i : Nat) : (cat (fun t => cellS l (i + t)) m).length ≤ 256 := by
  rw [cat_cells]
  unfold sub
  simp
  omega
theorem cat_le0 {l : List UInt8} (hl : l.length = 256) (m : Nat) : (cat (fun t => cellS l t) m).length ≤ 256 := by
  have := cat_le hl m 0
  simpa only [Nat.zero_add] using this
end Go.Proofs.Ythhoeabenngiiaa
