/- Plain: the bytes of tokens, blanks and remarks; where texts, blobs and words end. Of no program. -/
import Derived.Test.YtkooijhdjjdigaaDoorProg
import Derived.WalkKit
import Derived.ProofKit
import Derived.OpenShut
import Derived.Handy
import Derived.LoopN
import Derived.Deep.RegionHeld3
import Derived.Deep.Cut
namespace Go.Proofs.YtkooijhdjjdigaaDoor
open Go.ChangeShapes Go.WideShapes Go.ChangeAt Go.RowKit
set_option linter.unusedVariables false

theorem hide {p : Prop} (h : p) : Hid p := h
def letB (c : UInt8) : Bool := decide (97 ≤ c.toNat ∧ c.toNat ≤ 122 ∨ 65 ≤ c.toNat ∧ c.toNat ≤ 90 ∨ c.toNat = 95)
def digB (c : UInt8) : Bool := decide (48 ≤ c.toNat ∧ c.toNat ≤ 57)
def blkB (c : UInt8) : Bool := decide (c.toNat = 32 ∨ c.toNat = 9 ∨ c.toNat = 10 ∨ c.toNat = 13)
/-- One of the signs of one byte. -/
def sinB (c : UInt8) : Bool := ([40, 41, 44, 59, 46, 42, 43, 45, 47, 37, 61, 60, 62] : List UInt8).contains c
/-- Two bytes that are one sign. -/
def paiB (a b : UInt8) : Bool := decide (a.toNat = 124 ∧ b.toNat = 124 ∨ a.toNat = 61 ∧ b.toNat = 61 ∨ a.toNat = 60 ∧ b.toNat = 62 ∨ b.toNat = 61 ∧ (a.toNat = 33 ∨ a.toNat = 60 ∨ a.toNat = 62))
/-- Blanks and remarks ahead: how many bytes; true: within a remark. -/
def skp : Bool → List UInt8 → Nat
  | _, [] => 0
  | true, c :: r => if c.toNat = 10 then skp false r + 1 else skp true r + 1
  | false, c :: r => if blkB c then skp false r + 1 else if c.toNat = 45 ∧ (r.head?.map UInt8.toNat) = some 45 then skp true r + 1 else 0
/-- Behind a text's first quote: how many bytes to its end, the last quote too. -/
def quo : List UInt8 → Option Nat
  | [] => none
  | [c] => if c.toNat = 39 then some 1 else none
  | c :: d :: r => if c.toNat = 39 then (if d.toNat = 39 then (quo r).map (· + 2) else some 1) else (quo (d :: r)).map (· + 1)
def hexB (c : UInt8) : Bool := decide (48 ≤ c.toNat ∧ c.toNat ≤ 57 ∨ 97 ≤ c.toNat ∧ c.toNat ≤ 102 ∨ 65 ≤ c.toNat ∧ c.toNat ≤ 70)
/-- Behind a blob's first quote, of n digits so far: how many bytes to its end, the last quote too. -/
def blo : Bool → List UInt8 → Option Nat
  | _, [] => none
  | odd, c :: r => if c.toNat = 39 then (if odd then none else some 1) else if hexB c then (blo (!odd) r).map (· + 1) else none
/-- How many bytes of a word go on. -/
def wrd (l : List UInt8) : Nat := (l.takeWhile fun c => letB c || digB c).length
def dgs (l : List UInt8) : Nat := (l.takeWhile digB).length
/-- The token with which a text begins that is not empty: how long it is, and its kind. -/
def tok : List UInt8 → Option (Nat × Nat)
  | [] => none
  | c :: r =>
    if c.toNat = 39 then (quo r).map fun n => (n + 1, 3)
    else if (c.toNat = 120 ∨ c.toNat = 88) ∧ (r.head?.map UInt8.toNat) = some 39 then (blo false r.tail).map fun n => (n + 2, 4)
    else if letB c then some (wrd r + 1, 1)
    else if digB c then some (dgs r + 1, 2)
    else if c.toNat = 63 then some (dgs r + 1, 5)
    else if (r.head?.map (paiB c)).getD false then some (2, 6)
    else if sinB c then some (1, 6)
    else none

theorem skp_le : ∀ (b : Bool) (l : List UInt8), skp b l ≤ l.length
  | true, [] => by simp [skp]
  | false, [] => by simp [skp]
  | true, c :: r => by have h1 := skp_le false r; have h2 := skp_le true r; rw [skp]; split <;> simp <;> omega
  | false, c :: r => by have h1 := skp_le false r; have h2 := skp_le true r; rw [skp]; split; · simp; omega
                        split <;> simp; omega
theorem quo_le : ∀ (l : List UInt8) (n : Nat), quo l = some n → 0 < n ∧ n ≤ l.length
  | [], n, h => by simp [quo] at h
  | [c], n, h => by
    rw [quo] at h
    split at h
    · simp at h; subst h; simp
    · simp at h
  | c :: d :: r, n, h => by
    rw [quo] at h
    split at h
    · split at h
      · cases hq : quo r with
        | none => rw [hq] at h; simp at h
        | some m => rw [hq] at h; have := quo_le r m hq; simp at h; subst h; simp; omega
      · simp at h; subst h; simp
    · cases hq : quo (d :: r) with
      | none => rw [hq] at h; simp at h
      | some m => rw [hq] at h; have := quo_le (d :: r) m hq; simp at h this ⊢; omega
theorem blo_le : ∀ (l : List UInt8) (b : Bool) (n : Nat), blo b l = some n → 0 < n ∧ n ≤ l.length
  | [], b, n, h => by simp [blo] at h
  | c :: r, b, n, h => by
    rw [blo] at h
    split at h
    · split at h
      · simp at h
      · simp at h; subst h; simp
    · split at h
      · cases hq : blo (!b) r with
        | none => rw [hq] at h; simp at h
        | some m => rw [hq] at h; have := blo_le r _ m hq; simp at h; subst h; simp; omega
      · simp at h
theorem wrd_le (l : List UInt8) : wrd l ≤ l.length := by unfold wrd; exact (List.takeWhile_sublist _).length_le
theorem dgs_le (l : List UInt8) : dgs l ≤ l.length := by unfold dgs; exact (List.takeWhile_sublist _).length_le
theorem wrd_cons (c : UInt8) (r : List UInt8) : wrd (c :: r) = if letB c || digB c then wrd r + 1 else 0 := by unfold wrd; rw [List.takeWhile_cons]; split <;> simp
theorem dgs_cons (c : UInt8) (r : List UInt8) : dgs (c :: r) = if digB c then dgs r + 1 else 0 := by unfold dgs; rw [List.takeWhile_cons]; split <;> simp
theorem tok_le : ∀ (l : List UInt8) (n k : Nat), tok l = some (n, k) → 0 < n ∧ n ≤ l.length
  | [], n, k, h => by simp [tok] at h
  | c :: r, n, k, h => by
    rw [tok] at h
    split at h
    · cases hq : quo r with
      | none => rw [hq] at h; simp at h
      | some m => rw [hq] at h; have := quo_le r m hq; simp at h ⊢; omega
    split at h
    · rename_i hx
      cases hq : blo false r.tail with
      | none => rw [hq] at h; simp at h
      | some m =>
        rw [hq] at h; have := blo_le r.tail false m hq
        cases r with
        | nil => simp at hx
        | cons d r => simp at h this ⊢; omega
    split at h
    · have := wrd_le r; simp at h ⊢; omega
    split at h
    · have := dgs_le r; simp at h ⊢; omega
    split at h
    · have := dgs_le r; simp at h ⊢; omega
    split at h
    · cases r with
      | nil => simp at *
      | cons d r => simp at h ⊢; omega
    split at h
    · simp at h ⊢; omega
    · simp at h
theorem drop_next (t : ByteArray) (k : Nat) (h : k < t.size) : t.data.toList.drop k = (t[k]'h) :: t.data.toList.drop (k + 1) := by
  rw [List.drop_eq_getElem_cons (by simpa using h)]
  rfl
end Go.Proofs.YtkooijhdjjdigaaDoor
