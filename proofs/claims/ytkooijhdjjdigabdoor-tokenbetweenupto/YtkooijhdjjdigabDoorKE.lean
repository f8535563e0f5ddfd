/- The document's End. (genKE.py) -/
import Derived.Test.YtkooijhdjjdigabDoorKD
namespace Go.Proofs.YtkooijhdjjdigabDoor
open Go.ChangeShapes Go.WideShapes Go.ChangeAt Go.RowKit
set_option linter.unusedVariables false

/-- Where the token ends with which bytes behind a begin; -1: there is none. -/
def tokE (l : List UInt8) (a : Nat) : Int := match tok l with | some (n, _) => ((a + n : Nat) : Int) | none => -1
/-- Its kind; of none, which kind it would be. -/
def tokK (l : List UInt8) : Nat := match tok l with
  | some (_, k) => k
  | none => match l with
    | [] => 6
    | c :: r => if c.toNat = 39 then 3 else if (c.toNat = 120 ∨ c.toNat = 88) ∧ (r.head?.map UInt8.toNat) = some 39 then 4 else 6
theorem tok_text {c : UInt8} {r : List UInt8} (h : c.toNat = 39) (a : Nat) : tokE (c :: r) a = endI (quo r) (a + 1) ∧ tokK (c :: r) = 3 := by
  unfold tokE tokK
  rw [tok, if_pos h]
  cases hq : quo r <;> simp [endI, h]
  omega
theorem tok_blob {c d : UInt8} {r : List UInt8} (h : c.toNat = 120 ∨ c.toNat = 88) (hd : d.toNat = 39) (a : Nat) : tokE (c :: d :: r) a = endI (blo false r) (a + 2) ∧ tokK (c :: d :: r) = 4 := by
  have h39 : ¬ c.toNat = 39 := by omega
  unfold tokE tokK
  rw [tok, if_neg h39, if_pos ⟨h, by simp [hd]⟩]
  rw [List.tail_cons]
  cases hq : blo false r
  · simp [endI, h39, h, hd]
  · simp [endI]; omega
theorem tok_word {c : UInt8} {r : List UInt8} (h39 : c.toNat ≠ 39) (hx : ¬ ((c.toNat = 120 ∨ c.toNat = 88) ∧ (r.head?.map UInt8.toNat) = some 39)) (h : letB c = true) (a : Nat) : tokE (c :: r) a = ((a + 1 + wrd r : Nat) : Int) ∧ tokK (c :: r) = 1 := by
  unfold tokE tokK
  rw [tok, if_neg h39, if_neg hx, if_pos h]
  exact ⟨by simp; omega, rfl⟩
theorem tok_int {c : UInt8} {r : List UInt8} (h39 : c.toNat ≠ 39) (hx : ¬ ((c.toNat = 120 ∨ c.toNat = 88) ∧ (r.head?.map UInt8.toNat) = some 39)) (h : letB c = false) (hd : digB c = true) (a : Nat) : tokE (c :: r) a = ((a + 1 + dgs r : Nat) : Int) ∧ tokK (c :: r) = 2 := by
  unfold tokE tokK
  rw [tok, if_neg h39, if_neg hx, if_neg (by simp [h]), if_pos hd]
  exact ⟨by simp; omega, rfl⟩
theorem tok_par {c : UInt8} {r : List UInt8} (h39 : c.toNat ≠ 39) (hx : ¬ ((c.toNat = 120 ∨ c.toNat = 88) ∧ (r.head?.map UInt8.toNat) = some 39)) (h : letB c = false) (hd : digB c = false) (hp : c.toNat = 63) (a : Nat) : tokE (c :: r) a = ((a + 1 + dgs r : Nat) : Int) ∧ tokK (c :: r) = 5 := by
  unfold tokE tokK
  rw [tok, if_neg h39, if_neg hx, if_neg (by simp [h]), if_neg (by simp [hd]), if_pos hp]
  exact ⟨by simp; omega, rfl⟩
theorem tok_pair {c d : UInt8} {r : List UInt8} (h39 : c.toNat ≠ 39) (hx : ¬ (c.toNat = 120 ∨ c.toNat = 88)) (h : letB c = false) (hd : digB c = false) (hp : c.toNat ≠ 63) (hq : paiB c d = true) (a : Nat) : tokE (c :: d :: r) a = ((a + 2 : Nat) : Int) ∧ tokK (c :: d :: r) = 6 := by
  unfold tokE tokK
  rw [tok, if_neg h39, if_neg (fun h => hx h.1), if_neg (by simp [h]), if_neg (by simp [hd]), if_neg hp, if_pos (by simp [hq])]
  exact ⟨rfl, rfl⟩
theorem tok_sing {c : UInt8} {r : List UInt8} (h39 : c.toNat ≠ 39) (hx : ¬ (c.toNat = 120 ∨ c.toNat = 88)) (h : letB c = false) (hd : digB c = false) (hp : c.toNat ≠ 63) (hq : (r.head?.map (paiB c)).getD false = false) (hs : sinB c = true) (a : Nat) : tokE (c :: r) a = ((a + 1 : Nat) : Int) ∧ tokK (c :: r) = 6 := by
  unfold tokE tokK
  rw [tok, if_neg h39, if_neg (fun h => hx h.1), if_neg (by simp [h]), if_neg (by simp [hd]), if_neg hp, if_neg (by simp [hq]), if_pos hs]
  exact ⟨rfl, rfl⟩
theorem tok_none {c : UInt8} {r : List UInt8} (h39 : c.toNat ≠ 39) (hx : ¬ (c.toNat = 120 ∨ c.toNat = 88)) (h : letB c = false) (hd : digB c = false) (hp : c.toNat ≠ 63) (hq : (r.head?.map (paiB c)).getD false = false) (hs : sinB c = false) (a : Nat) : tokE (c :: r) a = -1 ∧ tokK (c :: r) = 6 := by
  have e : tok (c :: r) = none := by rw [tok, if_neg h39, if_neg (fun h => hx h.1), if_neg (by simp [h]), if_neg (by simp [hd]), if_neg hp, if_neg (by simp [hq]), if_neg (by simp [hs])]
  unfold tokE tokK
  rw [e]
  exact ⟨rfl, by simp [h39, hx]⟩

end Go.Proofs.YtkooijhdjjdigabDoor
