/- Plain laws under package value: quotes written twice and read back, hexadecimal digits, decimal digits. Of no program. -/
import Derived.Lib.Replace
import Derived.Lib.ParseIntB
import Derived.Lib.ItoaNum
import Derived.Lib.Strings
namespace Go.Proofs.Ytfjmoiooonialaa
open Go

def esc : List UInt8 → List UInt8
  | [] => []
  | c :: r => if c = 39 then 39 :: 39 :: esc r else c :: esc r

theorem rep_hit {old new s : List UInt8} (h1 : old ≠ []) (h : old.isPrefixOf s = true) :
    Lib.replaceK old new (Lib.count s old) s = new ++ Lib.replaceK old new (Lib.count (s.drop old.length) old) (s.drop old.length) := by
  have hi : Lib.index s old = ((0 : Nat) : Int) := by
    cases s with
    | nil => cases old with
      | nil => exact absurd rfl h1
      | cons a b => simp at h
    | cons b l => simp [Lib.index, h]
  rw [Lib.count_hit h1 hi, Nat.add_comm 1, Lib.replaceK_hit _ _ _ _ 0 hi]
  simp

theorem rep_miss {old new : List UInt8} {c : UInt8} {r : List UInt8} (h1 : old ≠ []) (h : old.isPrefixOf (c :: r) = false) :
    Lib.replaceK old new (Lib.count (c :: r) old) (c :: r) = c :: Lib.replaceK old new (Lib.count r old) r := by
  by_cases hm : Lib.index r old = -1
  · have hi : Lib.index (c :: r) old = -1 := by simp [Lib.index, h, hm]
    rw [Lib.count_miss hi, Lib.count_miss hm]
    rfl
  · have hge := Lib.index_ge r old
    obtain ⟨i, hi⟩ : ∃ i : Nat, Lib.index r old = i := ⟨(Lib.index r old).toNat, by omega⟩
    have hi2 : Lib.index (c :: r) old = ((i + 1 : Nat) : Int) := by
      have hne : ¬ ((i : Int) == -1) = true := fun e => by have := beq_iff_eq.1 e; omega
      simp only [Lib.index, h, hi, if_neg hne]
      simp
    rw [Lib.count_hit h1 hi2, Lib.count_hit h1 hi, Nat.add_comm 1, Nat.add_comm 1, Lib.replaceK_hit _ _ _ _ _ hi2, Lib.replaceK_hit _ _ _ _ _ hi]
    rw [show i + 1 + old.length = (i + old.length) + 1 by omega]
    simp

theorem rep_nil {old new : List UInt8} (h1 : old ≠ []) : Lib.replaceK old new (Lib.count [] old) [] = [] := by
  have hi : Lib.index [] old = -1 := by
    cases old with
    | nil => exact absurd rfl h1
    | cons a b => simp [Lib.index]
  rw [Lib.count_miss hi]; rfl

theorem replaceAll_eq {s old new : List UInt8} (h : old ≠ new) : Lib.replaceAll s old new = Lib.replaceK old new (Lib.count s old) s := by
  unfold Lib.replaceAll Lib.replace Lib.replaceNum
  rw [if_neg (by simpa using h), if_pos (Or.inl (by decide))]

theorem esc_eq (l : List UInt8) : Lib.replaceAll l [39] [39, 39] = esc l := by
  rw [replaceAll_eq (by decide)]
  induction l with
  | nil => exact rep_nil (by decide)
  | cons c r ih =>
    by_cases hc : c = 39
    · subst hc
      rw [rep_hit (by decide) (by simp)]
      simp [esc, ih]
    · rw [rep_miss (by decide) (by simp [List.isPrefixOf]; exact fun e => hc e.symm), ih, esc, if_neg hc]

theorem unesc_esc (l : List UInt8) : Lib.replaceAll (esc l) [39, 39] [39] = l := by
  rw [replaceAll_eq (by decide)]
  induction l with
  | nil => exact rep_nil (by decide)
  | cons c r ih =>
    by_cases hc : c = 39
    · subst hc
      rw [show esc (39 :: r) = 39 :: 39 :: esc r by simp [esc], rep_hit (by decide) (by simp [List.isPrefixOf])]
      simp [ih]
    · rw [show esc (c :: r) = c :: esc r by simp [esc, hc], rep_miss (by decide) (by simp [List.isPrefixOf]; intro e; exact absurd e.symm hc), ih]

theorem esc_length (l : List UInt8) : (esc l).length ≤ 2 * l.length := by
  induction l with
  | nil => simp [esc]
  | cons c r ih => unfold esc; split <;> simp <;> omega

/-- A digit to the base 16. -/
def hexd (n : Nat) : UInt8 := if n < 10 then UInt8.ofNat (48 + n) else UInt8.ofNat (87 + n)

def hexs : List UInt8 → List UInt8
  | [] => []
  | b :: r => hexd (b.toNat / 16) :: hexd (b.toNat % 16) :: hexs r

theorem hexs_length (l : List UInt8) : (hexs l).length = 2 * l.length := by
  induction l with
  | nil => rfl
  | cons c r ih => simp [hexs, ih]; omega

/-- The decimal digits are read as the number. -/
theorem parseM_append (M : Nat) : ∀ (l r : List UInt8) (a b : Nat), Lib.parseUintM M a l = .ok b → Lib.parseUintM M a (l ++ r) = Lib.parseUintM M b r
  | [], r, a, b, h => by simp [Lib.parseUintM] at h; subst h; rfl
  | c :: l, r, a, b, h => by
    simp only [Lib.parseUintM, List.cons_append] at h ⊢
    split at h
    · rename_i hc
      rw [if_pos hc]
      split at h
      · cases h
      · rename_i h2
        rw [if_neg h2]
        split at h
        · cases h
        · rename_i h3
          rw [if_neg h3]
          exact parseM_append M l r _ b h
    · cases h

theorem parse_dec (M : Nat) (hM : M ≤ 18446744073709551615) : ∀ u : Nat, u ≤ M → Lib.parseUintM M 0 (Lib.decDigits u) = .ok u := by
  intro u
  induction u using Nat.strongRecOn with
  | _ u ih =>
    intro hu
    by_cases h : u < 10
    · rw [Lib.decDigits, dif_pos h]
      have : (UInt8.ofNat (48 + u)).toNat = 48 + u := by rw [UInt8.toNat_ofNat']; omega
      simp only [Lib.parseUintM, this]
      rw [if_pos (by omega), if_neg (by omega), if_neg (by omega)]
      congr 1; omega
    · rw [Lib.decDigits, dif_neg h]
      have h1 := ih (u / 10) (by omega) (by omega)
      rw [parseM_append M _ _ _ _ h1]
      have : (UInt8.ofNat (48 + u % 10)).toNat = 48 + u % 10 := by rw [UInt8.toNat_ofNat']; omega
      simp only [Lib.parseUintM, this]
      rw [if_pos (by omega), if_neg (by omega), if_neg (by omega)]
      congr 1; omega

/-- The first sign of the digits is a digit. -/
theorem dec_head (u : Nat) : ∃ c r, Lib.decDigits u = c :: r ∧ 48 ≤ c.toNat ∧ c.toNat ≤ 57 := by
  induction u using Nat.strongRecOn with
  | _ u ih =>
    by_cases h : u < 10
    · rw [Lib.decDigits, dif_pos h]
      have : (UInt8.ofNat (48 + u)).toNat = 48 + u := by rw [UInt8.toNat_ofNat']; omega
      exact ⟨_, _, rfl, by omega, by omega⟩
    · obtain ⟨c, r, he, h1, h2⟩ := ih (u / 10) (by omega)
      rw [Lib.decDigits, dif_neg h, he]
      exact ⟨_, _, rfl, h1, h2⟩

theorem parse_itoa (n : Int) (h0 : -9223372036854775808 ≤ n) (h1 : n ≤ 9223372036854775807) : Lib.parseIntB 64 (Lib.itoa n) = .ok n := by
  unfold Lib.itoa
  by_cases hn : n < 0
  · rw [if_pos hn]
    obtain ⟨c, r, he, _, _⟩ := dec_head n.natAbs
    have hp := parse_dec (2 ^ 64 - 1) (by decide) n.natAbs (by omega)
    have hu : Lib.parseUintB 64 (Lib.decDigits n.natAbs) = .ok n.natAbs := by
      unfold Lib.parseUintB
      rw [if_neg (by rw [he]; simp), hp]
    have h45 : (45 : UInt8).toNat = 45 := rfl
    simp only [Lib.parseIntB, h45]
    rw [if_pos (Or.inr trivial), hu]
    simp only [not_true, false_and, if_false, true_and, if_true]
    rw [if_neg (by omega)]
    congr 1; omega
  · rw [if_neg hn]
    obtain ⟨c, r, he, hc1, hc2⟩ := dec_head n.toNat
    have hp := parse_dec (2 ^ 64 - 1) (by decide) n.toNat (by omega)
    have hu : Lib.parseUintB 64 (Lib.decDigits n.toNat) = .ok n.toNat := by
      unfold Lib.parseUintB
      rw [if_neg (by rw [he]; simp), hp]
    rw [he] at hu ⊢
    simp only [Lib.parseIntB]
    rw [if_neg (by omega), hu]
    have hne : ¬ c.toNat = 45 := by omega
    simp only [hne, not_false_iff, true_and, false_and, if_false]
    rw [if_neg (by omega)]
    congr 1; omega

theorem itoa_length (n : Int) (h0 : -9223372036854775808 ≤ n) (h1 : n ≤ 9223372036854775807) : (Lib.itoa n).length ≤ 30 := by
  have key : ∀ u : Nat, u ≤ 9223372036854775808 → Lib.nDigits u ≤ 20 := by
    intro u hu
    refine Nat.le_of_not_lt fun h => ?_
    have : ∀ (k v : Nat), k < Lib.nDigits v → 10 ^ k ≤ v ∨ k = 0 := by
      intro k
      induction k with
      | zero => intro v _; exact .inr rfl
      | succ k ih =>
        intro v hv
        by_cases h10 : v < 10
        · rw [Lib.nDigits_small h10] at hv; omega
        · rw [Lib.nDigits_big h10] at hv
          rcases ih (v / 10) (by omega) with h | h
          · left; rw [Nat.pow_succ]; omega
          · left; subst h; simp; omega
    rcases this 20 u h with h | h
    · simp at h; omega
    · omega
  unfold Lib.itoa
  split
  · simp only [List.length_cons, Lib.decDigits_length]
    have := key n.natAbs (by omega)
    omega
  · rw [Lib.decDigits_length]
    have := key n.toNat (by omega)
    omega

end Go.Proofs.Ytfjmoiooonialaa
