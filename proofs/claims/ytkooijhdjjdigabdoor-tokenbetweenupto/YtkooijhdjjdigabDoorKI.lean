/- The document's tokens of a text. -/
import Derived.Test.YtkooijhdjjdigabDoorKH
namespace Go.Proofs.YtkooijhdjjdigabDoor
open Go.ChangeShapes Go.WideShapes Go.ChangeAt Go.RowKit
set_option linter.unusedVariables false

structure Tk where
  k : Nat
  a : Nat
  t : List UInt8
deriving DecidableEq
def tkC (x : Tk) : List Value := [.int .i64 (x.k : Int), .int .i64 (x.a : Int), .string ⟨x.t.toArray⟩]
def tkL (l : List Tk) : List Value := l.flatMap tkC
theorem tkL_append (l r : List Tk) : tkL (l ++ r) = tkL l ++ tkL r := by simp [tkL]
theorem tkL_one (x : Tk) : tkL [x] = tkC x := by simp [tkL]
theorem tkL_length (l : List Tk) : (tkL l).length = l.length * 3 := by
  induction l with
  | nil => rfl
  | cons x l ih => rw [show x :: l = [x] ++ l from rfl, tkL_append, tkL_one, List.length_append, ih]; simp [tkC]; omega
def inL (l : List Nat) : List Value := l.map fun (x : Nat) => .int .i64 (x : Int)
theorem inL_append (l r : List Nat) : inL (l ++ r) = inL l ++ inL r := by simp [inL]
theorem inL_length (l : List Nat) : (inL l).length = l.length := by simp [inL]
/-- The tokens from a place on, where they end, and the place that is wrong; -1: none is. -/
def toks : Nat → List UInt8 → Nat → List Tk × List Nat × Int
  | 0, _, _ => ([], [], -1)
  | f + 1, l, a => if l = [] then ([], [], -1) else match tok l with
    | none => ([], [], (a : Int))
    | some (n, k) =>
      (⟨k, a, tokT (l.take n) k⟩ :: (toks f (l.drop (n + skp false (l.drop n))) (a + n + skp false (l.drop n))).1,
       (a + n) :: (toks f (l.drop (n + skp false (l.drop n))) (a + n + skp false (l.drop n))).2.1,
       (toks f (l.drop (n + skp false (l.drop n))) (a + n + skp false (l.drop n))).2.2)
def toksS (l : List UInt8) : List Tk × List Nat × Int := toks (l.length + 1) (l.drop (skp false l)) (skp false l)
theorem toks_nil (f a : Nat) : toks f [] a = ([], [], -1) := by cases f <;> simp [toks]
theorem toks_bad {f a : Nat} {c : UInt8} {l : List UInt8} (h : tok (c :: l) = none) : toks (f + 1) (c :: l) a = ([], [], (a : Int)) := by
  rw [toks, if_neg (by simp), h]
theorem toks_ok {f a n k : Nat} {c : UInt8} {l : List UInt8} (h : tok (c :: l) = some (n, k)) : toks (f + 1) (c :: l) a =
    (⟨k, a, tokT ((c :: l).take n) k⟩ :: (toks f ((c :: l).drop (n + skp false ((c :: l).drop n))) (a + n + skp false ((c :: l).drop n))).1,
       (a + n) :: (toks f ((c :: l).drop (n + skp false ((c :: l).drop n))) (a + n + skp false ((c :: l).drop n))).2.1,
       (toks f ((c :: l).drop (n + skp false ((c :: l).drop n))) (a + n + skp false ((c :: l).drop n))).2.2) := by
  rw [toks, if_neg (by simp), h]
theorem tok_kind {c : UInt8} {r : List UInt8} {n k : Nat} (h : tok (c :: r) = some (n, k)) : 1 ≤ k ∧ k ≤ 6 ∧ (k = 3 → 2 ≤ n) ∧ (k = 4 → 3 ≤ n) := by
  rw [tok] at h
  split at h
  · cases hq : quo r with
    | none => rw [hq] at h; simp at h
    | some m => rw [hq] at h; have := quo_le r m hq; simp at h; omega
  split at h
  · cases hq : blo false r.tail with
    | none => rw [hq] at h; simp at h
    | some m => rw [hq] at h; have := blo_le _ _ m hq; simp at h; omega
  split at h
  · simp at h; omega
  split at h
  · simp at h; omega
  split at h
  · simp at h; omega
  split at h
  · simp at h; omega
  split at h
  · simp at h; omega
  · simp at h
theorem tokE_some {l : List UInt8} {a n k : Nat} (h : tok l = some (n, k)) : tokE l a = ((a + n : Nat) : Int) ∧ tokK l = k := by
  unfold tokE tokK; rw [h]; exact ⟨rfl, rfl⟩
theorem tokE_none {l : List UInt8} {a : Nat} (h : tok l = none) : tokE l a = -1 := by
  unfold tokE; rw [h]

end Go.Proofs.YtkooijhdjjdigabDoor
