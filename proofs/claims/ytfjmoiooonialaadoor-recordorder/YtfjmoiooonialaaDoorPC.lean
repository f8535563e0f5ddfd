/- Plain: the order of bytes, of texts under a collation and of values is total. Of no program. -/
import Derived.Lib.TrimByte
namespace Go.Proofs.YtfjmoiooonialaaDoor
open Go

def cmpI (a b : Int) : Int := if a < b then -1 else if b < a then 1 else 0

def cmpL : List UInt8 → List UInt8 → Int
  | [], [] => 0
  | [], _ :: _ => -1
  | _ :: _, [] => 1
  | x :: xs, y :: ys => if x.toNat < y.toNat then -1 else if y.toNat < x.toNat then 1 else cmpL xs ys

def lowB (b : UInt8) : UInt8 := if 65 ≤ b.toNat ∧ b.toNat ≤ 90 then b + 32 else b

def foldL (c : Int) (l : List UInt8) : List UInt8 := if c = 2 then Lib.trimRightB l 32 else if c = 1 then l.map lowB else l

theorem cmpI_neg (a b : Int) : cmpI b a = -cmpI a b := by unfold cmpI; split <;> split <;> simp_all <;> omega
theorem cmpI_range (a b : Int) : -1 ≤ cmpI a b ∧ cmpI a b ≤ 1 := by unfold cmpI; split <;> (try split) <;> omega
theorem cmpI_le {a b : Int} : cmpI a b ≤ 0 ↔ a ≤ b := by unfold cmpI; split <;> (try split) <;> omega
theorem cmpI_zero {a b : Int} : cmpI a b = 0 ↔ a = b := by unfold cmpI; split <;> (try split) <;> omega

theorem cmpL_neg : ∀ a b : List UInt8, cmpL b a = -cmpL a b
  | [], [] => rfl
  | [], _ :: _ => rfl
  | _ :: _, [] => rfl
  | x :: xs, y :: ys => by
    simp only [cmpL]
    have := cmpL_neg xs ys
    split <;> split <;> (try split) <;> (try omega)
theorem cmpL_range : ∀ a b : List UInt8, -1 ≤ cmpL a b ∧ cmpL a b ≤ 1
  | [], [] => by simp [cmpL]
  | [], _ :: _ => by simp [cmpL]
  | _ :: _, [] => by simp [cmpL]
  | x :: xs, y :: ys => by
    simp only [cmpL]
    have := cmpL_range xs ys
    split <;> (try split) <;> (try omega)
theorem cmpL_zero : ∀ a b : List UInt8, cmpL a b = 0 → a = b
  | [], [], _ => rfl
  | [], _ :: _, h => by simp [cmpL] at h
  | _ :: _, [], h => by simp [cmpL] at h
  | x :: xs, y :: ys, h => by
    simp only [cmpL] at h
    split at h
    · omega
    · split at h
      · omega
      · have e : x = y := UInt8.toNat_inj.1 (by omega)
        rw [e, cmpL_zero xs ys h]
theorem cmpL_self : ∀ a : List UInt8, cmpL a a = 0
  | [] => rfl
  | x :: xs => by simp [cmpL, cmpL_self xs]
theorem cmpL_trans : ∀ a b c : List UInt8, cmpL a b ≤ 0 → cmpL b c ≤ 0 → cmpL a c ≤ 0
  | [], [], [], _, _ => by simp [cmpL]
  | [], _, _ :: _, _, _ => by simp [cmpL]
  | [], _ :: _, [], _, h => by simp [cmpL] at h
  | _ :: _, [], _, h, _ => by simp [cmpL] at h
  | _ :: _, _ :: _, [], _, h => by simp [cmpL] at h
  | x :: xs, y :: ys, z :: zs, h1, h2 => by
    simp only [cmpL] at h1 h2 ⊢
    have ih := cmpL_trans xs ys zs
    by_cases a1 : x.toNat < y.toNat
    · by_cases a2 : y.toNat < z.toNat
      · rw [if_pos (by omega)]; omega
      · rw [if_neg a2] at h2
        by_cases a3 : z.toNat < y.toNat
        · rw [if_pos a3] at h2; omega
        · rw [if_pos (by omega)]; omega
    · rw [if_neg a1] at h1
      by_cases a2 : y.toNat < x.toNat
      · rw [if_pos a2] at h1; omega
      · rw [if_neg a2] at h1
        by_cases a3 : y.toNat < z.toNat
        · rw [if_pos (by omega)]; omega
        · rw [if_neg a3] at h2
          by_cases a4 : z.toNat < y.toNat
          · rw [if_pos a4] at h2; omega
          · rw [if_neg a4] at h2
            rw [if_neg (by omega), if_neg (by omega)]
            exact ih h1 h2

/-- How two values that may be stand. -/
def cmpV (k1 n1 : Int) (t1 : List UInt8) (k2 n2 : Int) (t2 : List UInt8) (c : Int) : Int :=
  if k1 = k2 then (if k1 = 2 then cmpL (foldL c t1) (foldL c t2) else if k1 = 3 then cmpL t1 t2 else cmpI n1 n2) else cmpI k1 k2

theorem cmpV_neg (k1 n1 : Int) (t1 : List UInt8) (k2 n2 : Int) (t2 : List UInt8) (c : Int) : cmpV k2 n2 t2 k1 n1 t1 c = -cmpV k1 n1 t1 k2 n2 t2 c := by
  unfold cmpV
  by_cases h : k1 = k2
  · subst h
    rw [if_pos rfl, if_pos rfl]
    by_cases h2 : k1 = 2
    · rw [if_pos h2, if_pos h2]; exact cmpL_neg _ _
    · rw [if_neg h2, if_neg h2]
      by_cases h3 : k1 = 3
      · rw [if_pos h3, if_pos h3]; exact cmpL_neg _ _
      · rw [if_neg h3, if_neg h3]; exact cmpI_neg _ _
  · rw [if_neg h, if_neg (fun e => h e.symm)]; exact cmpI_neg _ _
theorem cmpV_range (k1 n1 : Int) (t1 : List UInt8) (k2 n2 : Int) (t2 : List UInt8) (c : Int) : -1 ≤ cmpV k1 n1 t1 k2 n2 t2 c ∧ cmpV k1 n1 t1 k2 n2 t2 c ≤ 1 := by
  unfold cmpV
  split
  · split
    · exact cmpL_range _ _
    · split
      · exact cmpL_range _ _
      · exact cmpI_range _ _
  · exact cmpI_range _ _
theorem cmpV_self (k1 n1 : Int) (t1 : List UInt8) (c : Int) : cmpV k1 n1 t1 k1 n1 t1 c = 0 := by
  unfold cmpV
  rw [if_pos rfl]
  split
  · exact cmpL_self _
  · split
    · exact cmpL_self _
    · exact cmpI_zero.2 rfl
theorem cmpV_trans (k1 n1 : Int) (t1 : List UInt8) (k2 n2 : Int) (t2 : List UInt8) (k3 n3 : Int) (t3 : List UInt8) (c : Int)
    (h1 : cmpV k1 n1 t1 k2 n2 t2 c ≤ 0) (h2 : cmpV k2 n2 t2 k3 n3 t3 c ≤ 0) : cmpV k1 n1 t1 k3 n3 t3 c ≤ 0 := by
  unfold cmpV at *
  by_cases e1 : k1 = k2
  · subst e1
    rw [if_pos rfl] at h1
    by_cases e2 : k1 = k3
    · subst e2
      rw [if_pos rfl] at h2 ⊢
      by_cases d2 : k1 = 2
      · rw [if_pos d2] at *; exact cmpL_trans _ _ _ h1 h2
      · rw [if_neg d2] at *
        by_cases d3 : k1 = 3
        · rw [if_pos d3] at *; exact cmpL_trans _ _ _ h1 h2
        · rw [if_neg d3] at *
          rw [cmpI_le] at *; omega
    · rw [if_neg e2] at h2 ⊢; exact h2
  · rw [if_neg e1, cmpI_le] at h1
    by_cases e2 : k2 = k3
    · subst e2
      rw [if_neg e1, cmpI_le]; exact h1
    · rw [if_neg e2, cmpI_le] at h2
      rw [if_neg (by omega), cmpI_le]; omega

end Go.Proofs.YtfjmoiooonialaaDoor
