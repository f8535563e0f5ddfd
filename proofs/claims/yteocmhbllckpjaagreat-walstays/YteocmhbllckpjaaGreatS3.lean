/- Words in a sealed sector: read and laid. -/
/- A sealed sector's copies, read; and what a sector says. -/
/- What a sector says. -/
import Derived.Test.YteocmhbllckpjaaGreatD
import Derived.Handy
import Derived.Test.YteocmhbllckpjaaGreatE
import Derived.ChangeKeysEq
namespace Go.Proofs.YteocmhbllckpjaaGreat
open Go.ChangeShapes Go.WideShapes Go.ChangeAt Go.RowKit
set_option linter.unusedVariables false

/-- Four bytes as a number, the greatest first. -/
def word4 (a b c d : Nat) : Nat := ((a * 256 + b) * 256 + c) * 256 + d

theorem or_low (x b : Nat) (hx : x < 16777216) (hb : b < 256) : bits .or .u32 ((x : Int) * 256) (b : Int) = ((x * 256 + b : Nat) : Int) := by
  have h := u32_or_nat (x * 256) b (by omega) (by omega)
  have e : x * 256 ||| b = x * 256 + b := by
    have := Nat.two_pow_add_eq_or_of_lt (i := 8) (show b < 2 ^ 8 by omega) x
    rw [Nat.mul_comm x 256]; exact this.symm
  rw [e] at h
  rw [← h]; simp

theorem or_step (x b : Nat) (hx : x < 16777216) (hb : b < 256) : bits .or .u32 ((x : Int) * 256 % 4294967296) (b : Int) = ((x * 256 + b : Nat) : Int) := by
  rw [Int.emod_eq_of_lt (by omega) (by omega)]
  exact or_low x b hx hb
theorem or_zero (b : Nat) (hb : b < 256) : bits .or .u32 0 (b : Int) = (b : Int) := by
  have := or_low 0 b (by omega) hb
  simpa using this

theorem ret_int' {k : IntKind} {a b : Int} (h : a = b) : Ending.returned (.int k a) = .returned (.int k b) := by rw [h]

theorem word_val (a b c d : Nat) (ha : a < 256) (hb : b < 256) (hc : c < 256) (hd : d < 256) :
    bits .or .u32 (bits .or .u32 (bits .or .u32 (bits .or .u32 0 (a : Int) * 256 % 4294967296) (b : Int) * 256 % 4294967296) (c : Int) * 256 % 4294967296) (d : Int) = (word4 a b c d : Int) := by
  rw [or_zero a ha, or_step a b (by omega) hb, or_step _ c (by omega) hc, or_step _ d (by omega) hd]
  rfl

set_option maxRecDepth 100000 in
theorem readWord_any (w : World) (g o len cap : Nat) (a b c d : Nat) (hl : 4 ≤ len) (ha : a < 256) (hb : b < 256) (hc : c < 256) (hd : d < 256)
    (h0 : w.cell? ⟨g, o, none⟩ = some (.int .u8 a)) (h1 : w.cell? ⟨g, o + 1, none⟩ = some (.int .u8 b)) (h2 : w.cell? ⟨g, o + 2, none⟩ = some (.int .u8 c)) (h3 : w.cell? ⟨g, o + 3, none⟩ = some (.int .u8 d)) :
    Calls Tryz.prog 146 #[.slice (some ⟨g, o, none⟩) len cap] w fun e w' => e = .returned (.int .u32 (word4 a b c d)) ∧ w = w' := by
  have l0 : (0 : Int) < (len : Int) := by omega
  have l1 : (1 : Int) < (len : Int) := by omega
  have l2 : (2 : Int) < (len : Int) := by omega
  have l3 : (3 : Int) < (len : Int) := by omega
  go_enter Tryz.func146, Tryz.ntmps146
  go_wp2
  refine wp_loop_rounds 5 ?_
  rw [rounds_succ]
  go_wp2
  rw [rounds_succ]
  go_wp2
  rw [rounds_succ]
  go_wp2
  rw [rounds_succ]
  go_wp2
  rw [rounds_succ]
  go_wp2
  go_ret
  exact ⟨ret_int' (word_val a b c d ha hb hc hd), rfl⟩

/-- A number's four bytes, the greatest first. -/
def be4 (n : Nat) : List UInt8 := [UInt8.ofNat (n / 16777216), UInt8.ofNat (n / 65536), UInt8.ofNat (n / 256), UInt8.ofNat n]

set_option maxRecDepth 100000 in
theorem layWord_raw (w : World) (g o len cap : Nat) (n : Nat) (cs : Array Value) (t : TypeId) (hb : Blk w g cs t) (hl : 4 ≤ len) (hn : n < 4294967296) (hcs : o + 4 ≤ cs.size) :
    Calls Tryz.prog 142 #[.slice (some ⟨g, o, none⟩) len cap, .int .u32 n] w fun e w' => e = .returned (.tuple #[]) ∧ w' = (((w.setCell ⟨g, o + 3, none⟩ (.int .u8 ((n : Int) % 256))).setCell ⟨g, o + 2, none⟩ (.int .u8 ((n : Int) / 256 % 256))).setCell ⟨g, o + 1, none⟩ (.int .u8 ((n : Int) / 256 / 256 % 256))).setCell ⟨g, o, none⟩ (.int .u8 ((n : Int) / 256 / 256 / 256)) := by
  have l0 : (0 : Int) < (len : Int) := by omega
  have l1 : (1 : Int) < (len : Int) := by omega
  have l2 : (2 : Int) < (len : Int) := by omega
  have l3 : (3 : Int) < (len : Int) := by omega
  have c0 : w.cell? ⟨g, o, none⟩ = some cs[o] := by rw [hb.cell]; simp
  have c1 : w.cell? ⟨g, o + 1, none⟩ = some cs[o + 1] := by rw [hb.cell]; simp
  have c2 : w.cell? ⟨g, o + 2, none⟩ = some cs[o + 2] := by rw [hb.cell]; simp
  have c3 : w.cell? ⟨g, o + 3, none⟩ = some cs[o + 3] := by rw [hb.cell]; simp
  have f0 := hb.frozen o
  have f1 := hb.frozen (o + 1)
  have f2 := hb.frozen (o + 2)
  have f3 := hb.frozen (o + 3)
  generalize cs[o] = x0 at c0
  generalize cs[o + 1] = x1 at c1
  generalize cs[o + 2] = x2 at c2
  generalize cs[o + 3] = x3 at c3
  clear hb hcs
  go_enter Tryz.func142, Tryz.ntmps142
  go_wp2
  refine wp_loop_rounds 5 ?_
  rw [rounds_succ]
  go_wp2
  rw [rounds_succ]
  go_wp2
  rw [rounds_succ]
  go_wp2
  rw [rounds_succ]
  go_wp2
  rw [rounds_succ]
  go_wp2
  go_end0
  exact ⟨rfl, rfl⟩

theorem splice_four {α : Type} (L : List α) (o : Nat) (a b c d : α) (h : o + 4 ≤ L.length) : (((L.set (o + 3) d).set (o + 2) c).set (o + 1) b).set o a = splice L o [a, b, c, d] := by
  apply List.ext_getElem?
  intro i
  unfold splice
  simp only [List.getElem?_set, List.length_set, List.getElem?_append, List.length_take, List.getElem?_take, List.length_cons, List.length_nil]
  rw [show min o L.length = o by omega]
  by_cases h1 : i < o
  · rw [if_pos h1]
    simp [show ¬ o = i by omega, show ¬ o + 1 = i by omega, show ¬ o + 2 = i by omega, show ¬ o + 3 = i by omega, h1]
  · rw [if_neg h1]
    by_cases e0 : i = o
    · subst e0; simp; omega
    · by_cases e1 : i = o + 1
      · subst e1; simp; omega
      · by_cases e2 : i = o + 2
        · subst e2; simp; omega
        · by_cases e3 : i = o + 3
          · subst e3; simp; omega
          · simp [show ¬ o = i by omega, show ¬ o + 1 = i by omega, show ¬ o + 2 = i by omega, show ¬ o + 3 = i by omega, show ¬ i - o < 4 by omega]
            congr 1; omega

theorem onlyAt (w : World) (g o : Nat) (v : Value) : Only [g] w (w.setCell ⟨g, o, none⟩ v) := Only.setCell w ⟨g, o, none⟩ v
theorem length_be4 (n : Nat) : (be4 n).length = 4 := rfl

theorem u8_0 (n : Nat) : (n : Int) % 256 = ((UInt8.ofNat n).toNat : Int) := by
  have : (UInt8.ofNat n).toNat = n % 256 := UInt8.toNat_ofNat'
  omega
theorem u8_1 (n : Nat) : (n : Int) / 256 % 256 = ((UInt8.ofNat (n / 256)).toNat : Int) := by
  have : (UInt8.ofNat (n / 256)).toNat = n / 256 % 256 := UInt8.toNat_ofNat'
  omega
theorem u8_2 (n : Nat) : (n : Int) / 256 / 256 % 256 = ((UInt8.ofNat (n / 65536)).toNat : Int) := by
  have : (UInt8.ofNat (n / 65536)).toNat = n / 65536 % 256 := UInt8.toNat_ofNat'
  omega
theorem u8_3 (n : Nat) (hn : n < 4294967296) : (n : Int) / 256 / 256 / 256 = ((UInt8.ofNat (n / 16777216)).toNat : Int) := by
  have : (UInt8.ofNat (n / 16777216)).toNat = n / 16777216 % 256 := UInt8.toNat_ofNat'
  omega

theorem layWord_any (w : World) (g o len cap : Nat) (n : Nat) (l : List UInt8) (t : TypeId) (hb : Blk w g (bcs l).toArray t) (hl : 4 ≤ len) (hn : n < 4294967296) (hcs : o + 4 ≤ l.length) :
    Calls Tryz.prog 142 #[.slice (some ⟨g, o, none⟩) len cap, .int .u32 n] w fun e w' => e = .returned (.tuple #[]) ∧ Blk w' g (bcs (splice l o (be4 n))).toArray t ∧ Only [g] w w' := by
  refine (layWord_raw w g o len cap n _ t hb hl hn (by simpa [length_bcs] using hcs)).mono ?_
  rintro e w' ⟨rfl, rfl⟩
  refine ⟨rfl, ?_, (((onlyAt w g (o + 3) _).trans (onlyAt _ g (o + 2) _)).trans (onlyAt _ g (o + 1) _)).trans (onlyAt _ g o _)⟩
  have h := (((hb.set (o + 3) (.int .u8 ((n : Int) % 256))).set (o + 2) (.int .u8 ((n : Int) / 256 % 256))).set (o + 1) (.int .u8 ((n : Int) / 256 / 256 % 256))).set o (.int .u8 ((n : Int) / 256 / 256 / 256))
  have e : ((((bcs l).toArray.setIfInBounds (o + 3) (.int .u8 ((n : Int) % 256))).setIfInBounds (o + 2) (.int .u8 ((n : Int) / 256 % 256))).setIfInBounds (o + 1) (.int .u8 ((n : Int) / 256 / 256 % 256))).setIfInBounds o (.int .u8 ((n : Int) / 256 / 256 / 256)) = (bcs (splice l o (be4 n))).toArray := by
    rw [u8_0, u8_1, u8_2, u8_3 n hn]
    simp only [List.setIfInBounds_toArray]
    rw [splice_four _ _ _ _ _ _ (by rw [length_bcs]; exact hcs), bcs_splice]
    rfl
  rw [e] at h
  exact h

end Go.Proofs.YteocmhbllckpjaaGreat

namespace Go.Proofs.YteocmhbllckpjaaGreat
open Go.ChangeShapes Go.WideShapes Go.ChangeAt Go.RowKit
set_option linter.unusedVariables false

def byteAt (l : List UInt8) (j : Nat) : Nat := (l.getD j 0).toNat
def wordAt (l : List UInt8) (o : Nat) : Nat := word4 (byteAt l o) (byteAt l (o + 1)) (byteAt l (o + 2)) (byteAt l (o + 3))
theorem byteAt_lt (l : List UInt8) (j : Nat) : byteAt l j < 256 := UInt8.toNat_lt _

theorem readWord_list (w : World) (g o len cap : Nat) (l : List UInt8) (hl : 4 ≤ len) (h : ∀ j, j < 4 → w.cell? ⟨g, o + j, none⟩ = some (.int .u8 (byteAt l (o + j)))) :
    Calls Tryz.prog 146 #[.slice (some ⟨g, o, none⟩) len cap] w fun e w' => e = .returned (.int .u32 (wordAt l o)) ∧ w = w' :=
  readWord_any w g o len cap _ _ _ _ hl (byteAt_lt _ _) (byteAt_lt _ _) (byteAt_lt _ _) (byteAt_lt _ _) (h 0 (by omega)) (h 1 (by omega)) (h 2 (by omega)) (h 3 (by omega))

theorem three_alloc (w : World) (A B C : Obj) : w.grownBy (((w.alloc A).alloc B).alloc C) none ∧ (((w.alloc A).alloc B).alloc C).heap[w.heap.size]? = some A := by
  obtain ⟨h1, h2, h3, h4⟩ := two_alloc w A B
  have hlt : w.heap.size < ((w.alloc A).alloc B).heap.size := by omega
  refine ⟨⟨rfl, rfl, rfl, by simp; omega, fun k hk _ => ?_⟩, (Below.heap_alloc _ _ _ hlt).trans h3⟩
  rw [Below.heap_alloc _ _ _ (by omega)]; exact h1.block k hk (by simp)

/-- One of the copies of a sector, as values. -/
def copyV (l : List UInt8) (k : Nat) : Array Value := #[.int .u32 (wordAt l (16 * k)), .int .u32 (wordAt l (16 * k + 4)), .int .u32 (wordAt l (16 * k + 8)), .int .u32 (wordAt l (16 * k + 12))]

set_option maxHeartbeats 1000000 in
set_option maxRecDepth 100000 in
theorem sealedCopy_any (w : World) (l : List UInt8) (hl : l.length = 64) (k : Nat) (hk : k = 0 ∨ k = 1 ∨ k = 2) :
    Calls Tryz.prog 137 #[.agg (bcs l).toArray, .int .i64 k] w fun e w' => e = .returned (.agg (copyV l k)) ∧ w.grownBy w' none := by
  obtain ⟨S, hS⟩ : ∃ S : Array Value, S = (bcs l).toArray := ⟨_, rfl⟩
  have hSs : S.size = 64 := by rw [hS]; simp [length_bcs, hl]
  have HC : Hid (∀ B C j, j < 64 → (((w.alloc (.cells S 110)).alloc B).alloc C).cell? ⟨w.heap.size, j, none⟩ = some (.int .u8 (byteAt l j))) := fun B C j hj => by
    rw [cell_of_row _ _ _ _ _ _ (three_alloc w _ B C).2, hS]
    simp [bcs, byteAt, List.getD, show j < l.length by omega]
  rw [← hS]
  clear hS
  rcases hk with rfl | rfl | rfl
  all_goals
    go_enter Tryz.func137, Tryz.ntmps137
    go_wp2
    refine wp_loop_rounds 5 ?_
    rw [rounds_succ]
    go_wp2_with (go_at_call 146; refine (readWord_list _ w.heap.size _ _ _ l (by omega) (fun j hj => HC.out _ _ _ (by omega))).mono ?_; rintro e w2 ⟨rfl, rfl⟩)
    rw [rounds_succ]
    go_wp2_with (go_at_call 146; refine (readWord_list _ w.heap.size _ _ _ l (by omega) (fun j hj => HC.out _ _ _ (by omega))).mono ?_; rintro e w2 ⟨rfl, rfl⟩)
    rw [rounds_succ]
    go_wp2_with (go_at_call 146; refine (readWord_list _ w.heap.size _ _ _ l (by omega) (fun j hj => HC.out _ _ _ (by omega))).mono ?_; rintro e w2 ⟨rfl, rfl⟩)
    rw [rounds_succ]
    go_wp2_with (go_at_call 146; refine (readWord_list _ w.heap.size _ _ _ l (by omega) (fun j hj => HC.out _ _ _ (by omega))).mono ?_; rintro e w2 ⟨rfl, rfl⟩)
    rw [rounds_succ]
    go_wp2_with (go_at_call 146; refine (readWord_list _ w.heap.size _ _ _ l (by omega) (fun j hj => HC.out _ _ _ (by omega))).mono ?_; rintro e w2 ⟨rfl, rfl⟩)
    first
      | exact bodyPost_ret (v := .agg (copyV l 0)) (by simp [results, Tryz.results137, go_sem, copyV]) rfl ⟨rfl, (three_alloc _ _ _ _).1⟩
      | exact bodyPost_ret (v := .agg (copyV l 1)) (by simp [results, Tryz.results137, go_sem, copyV]) rfl ⟨rfl, (three_alloc _ _ _ _).1⟩
      | exact bodyPost_ret (v := .agg (copyV l 2)) (by simp [results, Tryz.results137, go_sem, copyV]) rfl ⟨rfl, (three_alloc _ _ _ _).1⟩

end Go.Proofs.YteocmhbllckpjaaGreat

namespace Go.Proofs.YteocmhbllckpjaaGreat
open Go.ChangeShapes Go.WideShapes Go.ChangeAt Go.RowKit
set_option linter.unusedVariables false

/-- Are two copies the same? -/
def sameCopy (l : List UInt8) (i j : Nat) : Bool := (wordAt l (16 * i) == wordAt l (16 * j)) && (wordAt l (16 * i + 4) == wordAt l (16 * j + 4)) && (wordAt l (16 * i + 8) == wordAt l (16 * j + 8)) && (wordAt l (16 * i + 12) == wordAt l (16 * j + 12))
/-- What a sector says, as values. -/
def sayV (l : List UInt8) : Array Value := if sameCopy l 0 1 then copyV l 0 else copyV l 2

theorem info38 : (Tryz.prog.info? 157).isSome = true := by kernel_rfl
theorem cells38 : Tryz.prog.cellsOf 157 = 1 := by kernel_rfl
theorem part38 (w : World) (a b c d : Int) : (part 157 #[.int .u32 a, .int .u32 b, .int .u32 c, .int .u32 d] 0).run Tryz.prog w = .ok (.int .u32 a) w ∧ (part 157 #[.int .u32 a, .int .u32 b, .int .u32 c, .int .u32 d] 1).run Tryz.prog w = .ok (.int .u32 b) w ∧
    (part 157 #[.int .u32 a, .int .u32 b, .int .u32 c, .int .u32 d] 2).run Tryz.prog w = .ok (.int .u32 c) w ∧ (part 157 #[.int .u32 a, .int .u32 b, .int .u32 c, .int .u32 d] 3).run Tryz.prog w = .ok (.int .u32 d) w :=
  ⟨by kernel_rfl, by kernel_rfl, by kernel_rfl, by kernel_rfl⟩

theorem equal_words (w : World) (a b c d a' b' c' d' : Int) : (Op.equalIn 10000 159 (.agg #[.int .u32 a, .int .u32 b, .int .u32 c, .int .u32 d]) (.agg #[.int .u32 a', .int .u32 b', .int .u32 c', .int .u32 d'])).run Tryz.prog w = .ok ((a == a') && (b == b') && (c == c') && (d == d')) w := by
  obtain ⟨i, hi⟩ := Option.isSome_iff_exists.1 info38
  obtain ⟨x0, x1, x2, x3⟩ := part38 w a b c d
  obtain ⟨y0, y1, y2, y3⟩ := part38 w a' b' c' d'
  have q : ∀ x y : Int, (Op.equalIn 9999 157 (.int .u32 x) (.int .u32 y)).run Tryz.prog w = .ok (x == y) w := fun x y => run_equalIn_int (P := Tryz.prog) w 9998 157 .u32 .u32 x y Tryz.underlying157
  rw [run_equalIn_array (P := Tryz.prog) w 9999 _ _ Tryz.underlying159 hi, cells38, show List.range 4 = [0, 1, 2, 3] from rfl]
  simp only [Op.eqItems, Sem.run_bind, Nat.mul_one, x0, y0, Result.andThen_ok, q]
  cases h0 : a == a' <;> cases h1 : b == b' <;> cases h2 : c == c' <;> cases h3 : d == d' <;> simp [q, h1, h2, h3, x1, x2, x3, y1, y2, y3]


theorem eql_words (w : World) (a b c d a' b' c' d' : Int) : (binOp .eql 159 (.agg #[.int .u32 a, .int .u32 b, .int .u32 c, .int .u32 d]) (.agg #[.int .u32 a', .int .u32 b', .int .u32 c', .int .u32 d'])).run Tryz.prog w = .ok (.bool ((a == a') && (b == b') && (c == c') && (d == d'))) w := by
  rw [run_eql_struct, equal_words]; rfl
theorem neq_words (w : World) (a b c d a' b' c' d' : Int) : (binOp .neq 159 (.agg #[.int .u32 a, .int .u32 b, .int .u32 c, .int .u32 d]) (.agg #[.int .u32 a', .int .u32 b', .int .u32 c', .int .u32 d'])).run Tryz.prog w = .ok (.bool (!((a == a') && (b == b') && (c == c') && (d == d')))) w := by
  rw [run_neq_struct, equal_words]; rfl

end Go.Proofs.YteocmhbllckpjaaGreat
