/- Copying into a page; runs of cells laid one behind the other: the sizes. -/
/- Runs of cells laid one behind the other. -/
import Derived.Test.YthgclfhfipfknaaGreatGD
namespace Go.Proofs.YthgclfhfipfknaaGreat
open Go.ChangeShapes Go.WideShapes Go.ChangeAt Go.RowKit
set_option linter.unusedVariables false

/-- Bytes over others, from a place on. -/
def putL (l : List UInt8) (x : Nat) (bs : List UInt8) : List UInt8 := l.take x ++ bs ++ l.drop (x + bs.length)
theorem putL_length {l : List UInt8} {x : Nat} {bs : List UInt8} (h : x + bs.length ≤ l.length) : (putL l x bs).length = l.length := by
  simp [putL]; omega
theorem bytes_size (s : ByteArray) : s.data.toList.length = s.size := by cases s; rfl
theorem bcl_put (l : List UInt8) (x : Nat) (bs : List UInt8) : ((bc l).toList.take x ++ bcl bs ++ (bc l).toList.drop (x + (bcl bs).length)).toArray = bc (putL l x bs) := by
  simp [bc, bcl, putL, List.map_take, List.map_drop]
theorem bytes_elem : Tryz.prog.underlying 88 = some (.slice 5) := by kernel_rfl

theorem run_copyP {w : World} {g : Nat} {l : List UInt8} (hl : l.length = 256) (hg : PAt w g l) {x dl dc : Nat} {s : ByteArray} (hx : x + s.size ≤ 256) (hd : s.size ≤ dl) (ty : TypeId) :
    (Builtin.copy_ #[88, 9] ty #[.slice (some ⟨g, x, none⟩) dl dc, .string s]).run Tryz.prog w = .ok (goInt s.size) (w.setRow g (bc (putL l x s.data.toList))) := by
  have hmin : Nat.min s.size dl = s.size := Nat.min_eq_left hd
  have hb := bytes_size s
  have hst := run_storeCells_at Tryz.prog g x 59 (bcl s.data.toList) 0 (bc l) w hg (by simp [bcl, bc_size, hl]; omega) (by
    intro v hv
    obtain ⟨y, _, rfl⟩ := List.mem_map.1 hv
    rfl)
  simp only [Nat.add_zero, bcl_put] at hst
  simp [Builtin.copy_, run_underlying bytes_elem, Builtin.lenOf, Builtin.firstCells, hmin]
  rw [List.take_of_length_le (by rw [List.length_map, hb]; exact Nat.le_refl _)]
  have : (List.map (fun x : UInt8 => Value.int IntKind.u8 (x.toNat : Int)) s.data.toList) = bcl s.data.toList := rfl
  rw [this, hst]
  rfl

/-- A text copied into a page. -/
theorem wp_copyP {ops : Array Oper} {rest : List Oper} {o : Oper} {a : Act} {Q : Exit → Act → World → Prop} {w : World} {g : Nat} {l : List UInt8} (hl : l.length = 256) (hg : PAt w g l) {x dl dc : Nat} {s : ByteArray} (hx : x + s.size ≤ 256) (hd : s.size ≤ dl) (d y : Operand)
    (hgd : o.guard = none) (ho : o.op = .call { callee := .builtin .copy, args := #[d, y], argTypes := #[88, 9] }) (hd' : a.eval d = .slice (some ⟨g, x, none⟩) dl dc) (hy : a.eval y = .string s)
    (h : ∀ W', PAt W' g (putL l x s.data.toList) → (∀ B A, Below B A w → B ≤ g → Below B A W') → (∀ k, k ≠ g → W'.heap[k]? = w.heap[k]?) → wpList Tryz.prog ops Q rest (a.put o.dst (goInt s.size)) W') : wpList Tryz.prog ops Q (o :: rest) a w := by
  refine wpList_plain hgd fun K hK => ?_
  unfold Oper.wp execOp
  simp only [ho, resolve, invoke, builtin, Sem.run_bind, Sem.run_pure, Result.andThen_ok, List.map_toArray, List.map_cons, List.map_nil, hd', hy, run_copyP hl hg hx hd]
  exact hK _ _ (h _ hg.row (fun B A hb hB => below_setRow hb hB _) (fun k hk => heap_setRow _ _ _ _ hk))

/-- The end of a piece of bytes. -/
theorem cut_tail (g x len cap n : Nat) (h : n ≤ len) (hc : len ≤ cap) {y : Int} (hy : y = (n : Int)) :
    ∃ x', (∀ W, (Instr.slice 88 (.slice (some ⟨g, x, none⟩) len cap) (some (.int .i64 y)) none none).run Tryz.prog W = .ok (.slice (some ⟨g, x', none⟩) (len - n) (cap - n)) W) ∧ (n < cap → x' = x + n) ∧ (n = cap → x' = x) := by
  subst hy
  have e : (⟨g, x, none⟩ : Addr).add ((n : Int).toNat * 1) = ⟨g, x + n, none⟩ := by unfold Addr.add; split <;> simp_all
  refine ⟨if cap = n then x else x + n, fun W => ?_, fun h => if_neg (by omega), fun h => if_pos h.symm⟩
  rw [run_slice_l W 88 (some ⟨g, x, none⟩) len cap (by rw [show Tryz.prog.elem 88 = 5 by simp [Program.elem]]; exact bytes_elem) .i64 _ (by omega) (by omega), show Tryz.prog.elem 88 = 5 by simp [Program.elem], size5]
  simp only [Result.andThen, sliced]
  by_cases hcn : cap = n
  · subst hcn
    simp
  · rw [if_neg (by omega), if_neg hcn]
    simp only [Option.map_some, e]
    rfl
theorem cut_end' (g : Nat) {x : Int} (a : Nat) (hx : x = (a : Int)) (ha : a ≤ 256) :
    ∃ x', (∀ W, (Instr.sliceAt 59 (.pointer (some ⟨g, 0, none⟩)) (some (.int .i64 x)) none none).run Tryz.prog W = .ok (.slice (some ⟨g, x', none⟩) (256 - a) (256 - a)) W) ∧ (a < 256 → x' = a) ∧ (a = 256 → x' = 0) := by
  by_cases h : a < 256
  · exact ⟨a, fun W => cut_end W g (y := 0) a hx h, fun _ => rfl, fun e => by omega⟩
  · obtain rfl : a = 256 := by omega
    subst hx
    refine ⟨0, fun W => ?_, fun e => by omega, fun _ => rfl⟩
    rw [run_sliceAt_array_l W 59 ⟨g, 0, none⟩ (by rw [page_arrl, page_elem]; exact page_arr) .i64 _ (by omega) (by rw [page_arrl]; omega), page_elem, size5, page_arrl]
    rfl

/-- Texts one behind the other. -/
def cat (A : Nat → ByteArray) : Nat → List UInt8
  | 0 => []
  | j + 1 => cat A j ++ (A j).data.toList
theorem cat_len (A : Nat → ByteArray) (j : Nat) : (cat A (j + 1)).length = (cat A j).length + (A j).size := by
  simp [cat]
theorem cat_mono (A : Nat → ByteArray) {i j : Nat} (h : i ≤ j) : (cat A i).length ≤ (cat A j).length := by
  induction j with
  | zero => obtain rfl : i = 0 := by omega
            exact Nat.le_refl _
  | succ n ih =>
    by_cases e : i = n + 1
    · subst e; exact Nat.le_refl _
    · rw [cat_len]; exact Nat.le_trans (ih (by omega)) (Nat.le_add_right _ _)

/-- Runs of cells, as they lie in memory. -/
abbrev RunsAt (w : World) (b o m : Nat) (A B : Nat → ByteArray) : Prop := ∀ i, i < m → w.cell? ⟨b, o + i * 2, none⟩ = some (.string (A i)) ∧ w.cell? ⟨b, o + i * 2 + 1, none⟩ = some (.string (B i))
theorem RunsAt.later {w w' : World} {b o m : Nat} {A B : Nat → ByteArray} (h : RunsAt w b o m A B) (hb : Below w.heap.size w w') : RunsAt w' b o m A B := fun i hi => ⟨cell_later hb (h i hi).1, cell_later hb (h i hi).2⟩

def zeros (n : Nat) : List UInt8 := List.replicate n 0
theorem zeros_length (n : Nat) : (zeros n).length = n := List.length_replicate ..
/-- A page while its runs are laid. -/
def lay (k n : Nat) (A B : Nat → ByteArray) (N i j : Nat) : List UInt8 :=
  UInt8.ofNat k :: UInt8.ofNat n :: 0 :: 0 :: 0 :: 0 :: (cat A i ++ (zeros (N - (cat A i).length) ++ (cat B j ++ zeros (250 - N - (cat B j).length))))
theorem lay_length (k n : Nat) (A B : Nat → ByteArray) (N i j : Nat) (h1 : (cat A i).length ≤ N) (h2 : N + (cat B j).length ≤ 250) : (lay k n A B N i j).length = 256 := by
  simp [lay, zeros]; omega
theorem zeros_split (a b : Nat) (h : a ≤ b) : zeros b = zeros a ++ zeros (b - a) := by
  simp only [zeros, List.replicate_append_replicate]
  congr 1; omega
/-- Bytes over as many zeros. -/
theorem put_zeros (X Y : List UInt8) (bs : List UInt8) (n : Nat) (h : bs.length ≤ n) : putL (X ++ (zeros n ++ Y)) X.length bs = X ++ bs ++ (zeros (n - bs.length) ++ Y) := by
  unfold putL
  rw [List.take_left' rfl, List.drop_append, zeros_split bs.length n h, List.drop_of_length_le (by omega)]
  have e : X.length + bs.length - X.length = (zeros bs.length).length := by rw [zeros_length]; omega
  rw [e, List.append_assoc (zeros bs.length), List.drop_left' rfl]
  simp
theorem putL_nil (l : List UInt8) (x : Nat) : putL l x [] = l := by simp [putL]
theorem str_nil {s : ByteArray} (h : s.size = 0) : s.data.toList = [] := by
  have := bytes_size s
  rw [h] at this
  exact List.length_eq_zero_iff.1 this
theorem put_A (k n : Nat) (A B : Nat → ByteArray) (N i j x : Nat) (hx : (A i).size = 0 ∨ x = 6 + (cat A i).length) (h : (cat A (i + 1)).length ≤ N) : putL (lay k n A B N i j) x (A i).data.toList = lay k n A B N (i + 1) j := by
  rcases hx with h0 | rfl
  · rw [str_nil h0, putL_nil]
    simp only [lay, cat, str_nil h0, List.append_nil]
  · have hl := cat_len A i
    have hb := bytes_size (A i)
    have := put_zeros (UInt8.ofNat k :: UInt8.ofNat n :: 0 :: 0 :: 0 :: 0 :: cat A i) (cat B j ++ zeros (250 - N - (cat B j).length)) (A i).data.toList (N - (cat A i).length) (by omega)
    have e : (UInt8.ofNat k :: UInt8.ofNat n :: 0 :: 0 :: 0 :: 0 :: cat A i : List UInt8).length = 6 + (cat A i).length := by simp; omega
    rw [e] at this
    have l2 : N - (cat A i).length - (A i).data.toList.length = N - (cat A (i + 1)).length := by omega
    rw [l2] at this
    refine Eq.trans this ?_
    simp [lay, cat]
theorem put_B (k n : Nat) (A B : Nat → ByteArray) (N i j x : Nat) (hi : (cat A i).length ≤ N) (hx : (B j).size = 0 ∨ x = 6 + N + (cat B j).length) (h : N + (cat B (j + 1)).length ≤ 250) : putL (lay k n A B N i j) x (B j).data.toList = lay k n A B N i (j + 1) := by
  rcases hx with h0 | rfl
  · rw [str_nil h0, putL_nil]
    simp only [lay, cat, str_nil h0, List.append_nil]
  · have hl := cat_len B j
    have hb := bytes_size (B j)
    have := put_zeros (UInt8.ofNat k :: UInt8.ofNat n :: 0 :: 0 :: 0 :: 0 :: (cat A i ++ (zeros (N - (cat A i).length) ++ cat B j))) [] (B j).data.toList (250 - N - (cat B j).length) (by omega)
    have e : (UInt8.ofNat k :: UInt8.ofNat n :: 0 :: 0 :: 0 :: 0 :: (cat A i ++ (zeros (N - (cat A i).length) ++ cat B j)) : List UInt8).length = 6 + N + (cat B j).length := by simp [zeros]; omega
    rw [e] at this
    have l2 : 250 - N - (cat B j).length - (B j).data.toList.length = 250 - N - (cat B (j + 1)).length := by omega
    rw [l2] at this
    simp only [List.append_nil] at this
    refine Eq.trans (Eq.trans ?_ this) ?_
    · simp [lay]
    · simp [lay, cat]
theorem lay0 (k N : Nat) (A B : Nat → ByteArray) (hk : k < 256) (hN : N ≤ 250) : ((bc zs).setIfInBounds 0 (Value.int IntKind.u8 (k : Int))).setIfInBounds 1 (Value.int IntKind.u8 (N : Int)) = bc (lay k N A B N 0 0) := by
  rw [show (k : Int) = ((UInt8.ofNat k).toNat : Int) by simp; omega, show (N : Int) = ((UInt8.ofNat N).toNat : Int) by simp; omega, bc_set, bc_set]
  congr 1
  show _ = UInt8.ofNat k :: UInt8.ofNat N :: 0 :: 0 :: 0 :: 0 :: ([] ++ (zeros N ++ ([] ++ zeros (250 - N))))
  rw [List.nil_append, List.nil_append, ← zeros_split N 250 hN]
  rfl
end Go.Proofs.YthgclfhfipfknaaGreat

namespace Go.Proofs.YthgclfhfipfknaaGreat
open Go.ChangeShapes Go.WideShapes Go.ChangeAt Go.RowKit
set_option linter.unusedVariables false

theorem built_page : Tryz.prog.built 59 [] = some (bc zs) := by kernel_rfl

set_option maxHeartbeats 2000000 in
set_option maxRecDepth 10000 in
theorem joined_full (k L : Nat) (b o m cap : Nat) (A B : Nat → ByteArray) (hs : (cat A m).length + (cat B m).length ≤ 1000000000) (hm : m ≤ 1000000000) (hf : 250 < (cat A m).length + (cat B m).length) (w : World) (h : RunsAt w b o m A B) :
    Calls Tryz.prog 245 #[.int .u8 k, .int .u32 (L : Int), .slice (some ⟨b, o, none⟩) m cap] w fun e w' => e = .returned (.tuple #[.agg (bc zs), .int .i64 5]) ∧ Below w.heap.size w w' := by
  have HR := hide (h.later (new_below w (.cells (bc zs) 59) rfl))
  have HZ := hide (PAt.new w zs)
  have HB := hide (new_below w (.cells (bc zs) 59) rfl)
  have HS := hide hs
  have HF := hide hf
  have hz := zero_page.1
  have hbu := built_page
  clear h hs hf
  go_enter Tryz.func245, Tryz.ntmps245
  go_wp2
  go_loopw [19, 8, 9] (fun iv cv sv wr => ∃ j : Nat, j ≤ m ∧ iv = .int .i64 (j : Int) ∧ cv = .int .i64 ((cat A j).length : Int) ∧ sv = .int .i64 ((6 + ((cat A j).length + (cat B j).length) : Nat) : Int) ∧ Below (w.alloc (.cells (bc zs) 59)).heap.size (w.alloc (.cells (bc zs) 59)) wr) (fun iv _ _ _ => m - (intOf iv).toNat)
  case atStart => exact ⟨0, Nat.zero_le _, rfl, rfl, rfl, Below.refl _ _⟩
  case round =>
    obtain ⟨j, hj, rfl, rfl, rfl, hbel⟩ := hrel
    have HBj := hide hbel
    clear hbel
    by_cases hlt : j < m
    · have l1 : (j : Int) < (m : Int) := by omega
      have l0 : (0 : Int) ≤ (j : Int) := by omega
      have hw1 : IntKind.i64.wrap ((j : Int) + 1) = (j : Int) + 1 := by rw [IntKind.wrap_i64]; omega
      obtain ⟨c0, c1⟩ := (HR.out.later HBj.out) j hlt
      have hs := HS.out
      have la := cat_len A j
      have lb := cat_len B j
      have ma := cat_mono A (show j + 1 ≤ m by omega)
      have mb := cat_mono B (show j + 1 ≤ m by omega)
      have e1 : IntKind.i64.wrap (((cat A j).length : Int) + ((A j).size : Int)) = ((cat A j).length : Int) + ((A j).size : Int) := by rw [IntKind.wrap_i64]; omega
      have e2 : IntKind.i64.wrap (((A j).size : Int) + ((B j).size : Int)) = ((A j).size : Int) + ((B j).size : Int) := by rw [IntKind.wrap_i64]; omega
      have e3 : IntKind.i64.wrap (6 + (((cat A j).length : Int) + ((cat B j).length : Int)) + (((A j).size : Int) + ((B j).size : Int))) = 6 + (((cat A j).length : Int) + ((cat B j).length : Int)) + (((A j).size : Int) + ((B j).size : Int)) := by rw [IntKind.wrap_i64]; omega
      have HN := hide (below_trans HBj.out (new_below wr (.cells #[.string (A j), .string (B j)] 339) rfl))
      have HLA := hide la
      have HLB := hide lb
      clear la lb ma mb hs
      go_wp2
      refine ⟨⟨j + 1, hlt, rfl, ?_, ?_, HN.out⟩, ?_⟩
      · rw [HLA.out]; congr 1
      · rw [HLA.out, HLB.out]; exact congrArg (Value.int IntKind.i64) (by omega)
      · simp only [intOf]; omega
    · have l1 : ¬ (j : Int) < (m : Int) := by omega
      obtain rfl : j = m := by omega
      have hf := HF.out
      have l2 : (256 : Int) < 6 + (((cat A j).length : Int) + ((cat B j).length : Int)) := by omega
      have HB2 := hide (below_trans HB.out HBj.out)
      have HZ2 := hide (HZ.out.later HBj.out)
      clear hf
      go_wp2_with (first
        | (refine wp_storeP zs_length zs_length HZ2.out _ _ (by rfl) (by rfl) (by rfl) (by rfl) ?_; intro W1 hp hb hk; have HP1 := hide hp; have HB1 := hide (hb _ _ HB2.out (by omega)); clear hp hb hk)
        | (exact ret_page2 Tryz.results245 rfl rfl zs_length HP1.out ⟨rfl, HB1.out⟩))
end Go.Proofs.YthgclfhfipfknaaGreat
