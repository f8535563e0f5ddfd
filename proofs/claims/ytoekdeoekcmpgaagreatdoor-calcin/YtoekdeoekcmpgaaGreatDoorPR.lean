/- Plain: the document's reading of literals, and that it takes just what is written. Of no program. -/
import Derived.Test.YtoekdeoekcmpgaaGreatDoorPB
namespace Go.Proofs.YtoekdeoekcmpgaaGreatDoor
open Go

def isDig (c : UInt8) : Prop := 48 ≤ c.toNat ∧ c.toNat ≤ 57
instance (c : UInt8) : Decidable (isDig c) := by unfold isDig; infer_instance

/-- One step of the document's reckoning; nothing: the number leaves the range. -/
def numStep (neg : Bool) (n : Int) (c : UInt8) : Option Int :=
  if neg then (if n < (-9223372036854775808 + ((c.toNat : Int) - 48)).tdiv 10 then none else some (n * 10 - ((c.toNat : Int) - 48)))
  else (if n > (9223372036854775807 - ((c.toNat : Int) - 48)).tdiv 10 then none else some (n * 10 + ((c.toNat : Int) - 48)))

def numLoop (neg : Bool) : Int → List UInt8 → Option Int
  | n, [] => some n
  | n, c :: r => if isDig c then (match numStep neg n c with | some m => numLoop neg m r | none => none) else none

/-- What digits spell, behind a. -/
def dgt (c : UInt8) : Nat := c.toNat - 48
def spell (a : Nat) (l : List UInt8) : Nat := l.foldl (fun a c => a * 10 + dgt c) a
theorem spell_nil (a : Nat) : spell a [] = a := by unfold spell; rw [List.foldl_nil]
theorem spell_cons (a : Nat) (c : UInt8) (r : List UInt8) : spell a (c :: r) = spell (a * 10 + dgt c) r := by unfold spell; rw [List.foldl_cons]
theorem dgt_eq (c : UInt8) : dgt c = c.toNat - 48 := by unfold dgt; rfl

theorem spell_snoc (l : List UInt8) (c : UInt8) (a : Nat) : spell a (l ++ [c]) = spell a l * 10 + dgt c := by
  unfold spell; rw [List.foldl_append, List.foldl_cons, List.foldl_nil]

theorem spell_ge : ∀ (l : List UInt8) (a : Nat), a ≤ spell a l
  | [], a => by rw [spell_nil]; exact Nat.le_refl _
  | c :: l, a => by rw [spell_cons]; exact Nat.le_trans (by omega) (spell_ge l _)

theorem loop_pos : ∀ (l : List UInt8) (a : Nat) (m : Int), numLoop false a l = some m → a ≤ 9223372036854775807 → (∀ c ∈ l, isDig c) ∧ m = (spell a l : Int) ∧ m ≤ 9223372036854775807
  | [], a, m, h, ha => by simp [numLoop] at h; subst h; exact ⟨by simp, by rw [spell_nil], by omega⟩
  | c :: l, a, m, h, ha => by
    simp only [numLoop] at h
    by_cases hc : isDig c
    · rw [if_pos hc] at h
      unfold isDig at hc
      unfold numStep at h
      simp only [Bool.false_eq_true, if_false] at h
      have ht : (9223372036854775807 - ((c.toNat : Int) - 48)).tdiv 10 = (9223372036854775807 - ((c.toNat : Int) - 48)) / 10 := Int.tdiv_eq_ediv_of_nonneg (by omega)
      rw [ht] at h
      by_cases hb : (a : Int) > (9223372036854775807 - ((c.toNat : Int) - 48)) / 10
      · rw [if_pos hb] at h; cases h
      · rw [if_neg hb] at h
        simp only at h
        have e : (a : Int) * 10 + ((c.toNat : Int) - 48) = ((a * 10 + dgt c : Nat) : Int) := by rw [dgt_eq]; omega
        rw [e] at h
        obtain ⟨h1, h2, h3⟩ := loop_pos l _ m h (by rw [dgt_eq]; omega)
        exact ⟨fun d hd => by rcases List.mem_cons.1 hd with rfl | hd; exact hc; exact h1 d hd, by rw [spell_cons]; exact h2, h3⟩
    · rw [if_neg hc] at h; cases h

theorem loop_pos_mk : ∀ (l : List UInt8) (a : Nat), (∀ c ∈ l, isDig c) → spell a l ≤ 9223372036854775807 → numLoop false a l = some (spell a l : Int)
  | [], a, _, _ => by rw [spell_nil]; rfl
  | c :: l, a, h, hs => by
    have hc : isDig c := h c (by simp)
    simp only [numLoop, if_pos hc]
    unfold isDig at hc
    have hg := spell_ge l (a * 10 + dgt c)
    rw [spell_cons] at hs ⊢
    have hdg := dgt_eq c
    unfold numStep
    simp only [Bool.false_eq_true, if_false]
    have ht : (9223372036854775807 - ((c.toNat : Int) - 48)).tdiv 10 = (9223372036854775807 - ((c.toNat : Int) - 48)) / 10 := Int.tdiv_eq_ediv_of_nonneg (by omega)
    rw [ht, if_neg (by omega)]
    simp only
    rw [show (a : Int) * 10 + ((c.toNat : Int) - 48) = ((a * 10 + dgt c : Nat) : Int) by rw [dgt_eq]; omega]
    exact loop_pos_mk l _ (fun d hd => h d (by simp [hd])) hs

theorem tdiv_neg10 (x : Int) (h : x ≤ 0) : x.tdiv 10 = -((-x) / 10) := by
  have := Int.neg_tdiv (-x) 10
  rw [Int.neg_neg] at this
  rw [this, Int.tdiv_eq_ediv_of_nonneg (by omega)]

theorem loop_neg : ∀ (l : List UInt8) (a : Nat) (m : Int), numLoop true (-(a : Int)) l = some m → a ≤ 9223372036854775808 → (∀ c ∈ l, isDig c) ∧ m = -(spell a l : Int) ∧ -9223372036854775808 ≤ m
  | [], a, m, h, ha => by simp [numLoop] at h; subst h; exact ⟨by simp, by rw [spell_nil], by omega⟩
  | c :: l, a, m, h, ha => by
    simp only [numLoop] at h
    by_cases hc : isDig c
    · rw [if_pos hc] at h
      unfold isDig at hc
      unfold numStep at h
      simp only [if_true] at h
      rw [tdiv_neg10 _ (by omega)] at h
      by_cases hb : -(a : Int) < -((-(-9223372036854775808 + ((c.toNat : Int) - 48))) / 10)
      · rw [if_pos hb] at h; cases h
      · rw [if_neg hb] at h
        simp only at h
        have e : -(a : Int) * 10 - ((c.toNat : Int) - 48) = -((a * 10 + dgt c : Nat) : Int) := by rw [dgt_eq]; omega
        rw [e] at h
        obtain ⟨h1, h2, h3⟩ := loop_neg l _ m h (by rw [dgt_eq]; omega)
        exact ⟨fun d hd => by rcases List.mem_cons.1 hd with rfl | hd; exact hc; exact h1 d hd, by rw [spell_cons]; exact h2, h3⟩
    · rw [if_neg hc] at h; cases h

theorem loop_neg_mk : ∀ (l : List UInt8) (a : Nat), (∀ c ∈ l, isDig c) → spell a l ≤ 9223372036854775808 → numLoop true (-(a : Int)) l = some (-(spell a l : Int))
  | [], a, _, _ => by rw [spell_nil]; rfl
  | c :: l, a, h, hs => by
    have hc : isDig c := h c (by simp)
    simp only [numLoop, if_pos hc]
    unfold isDig at hc
    have hg := spell_ge l (a * 10 + dgt c)
    rw [spell_cons] at hs ⊢
    have hdg := dgt_eq c
    unfold numStep
    simp only [if_true]
    rw [tdiv_neg10 _ (by omega), if_neg (by omega)]
    simp only
    rw [show -(a : Int) * 10 - ((c.toNat : Int) - 48) = -((a * 10 + dgt c : Nat) : Int) by rw [dgt_eq]; omega]
    exact loop_neg_mk l _ (fun d hd => h d (by simp [hd])) hs

theorem dec_spell (u : Nat) : (∀ c ∈ Lib.decDigits u, isDig c) ∧ spell 0 (Lib.decDigits u) = u := by
  induction u using Nat.strongRecOn with
  | _ u ih =>
    by_cases h : u < 10
    · rw [Lib.decDigits, dif_pos h]
      have e : (UInt8.ofNat (48 + u)).toNat = 48 + u := by rw [UInt8.toNat_ofNat']; omega
      refine ⟨?_, ?_⟩
      · intro c hc; simp only [List.mem_singleton] at hc; subst hc; unfold isDig; omega
      · rw [spell_cons, spell_nil, dgt_eq, e]; omega
    · obtain ⟨h1, h2⟩ := ih (u / 10) (by omega)
      rw [Lib.decDigits, dif_neg h]
      have e : (UInt8.ofNat (48 + u % 10)).toNat = 48 + u % 10 := by rw [UInt8.toNat_ofNat']; omega
      refine ⟨?_, ?_⟩
      · intro c hc
        rcases List.mem_append.1 hc with hc | hc
        · exact h1 c hc
        · simp only [List.mem_singleton] at hc; subst hc; unfold isDig; omega
      · rw [spell_snoc, h2, dgt_eq, e]; omega

theorem dec_first (u : Nat) (hu : 1 ≤ u) : ∃ c r, Lib.decDigits u = c :: r ∧ c ≠ 48 := by
  induction u using Nat.strongRecOn with
  | _ u ih =>
    by_cases h : u < 10
    · rw [Lib.decDigits, dif_pos h]
      have e : (UInt8.ofNat (48 + u)).toNat = 48 + u := by rw [UInt8.toNat_ofNat']; omega
      exact ⟨_, _, rfl, fun hc => by rw [hc] at e; simp at e; omega⟩
    · obtain ⟨c, r, h1, h2⟩ := ih (u / 10) (by omega) (by omega)
      rw [Lib.decDigits, dif_neg h, h1]
      exact ⟨c, _, rfl, h2⟩

theorem spell_pos : ∀ (l : List UInt8) (c : UInt8), isDig c → c ≠ 48 → 1 ≤ spell 0 (c :: l) := by
  intro l c hc h
  rw [spell_cons]
  refine Nat.le_trans ?_ (spell_ge l _)
  rw [dgt_eq]
  unfold isDig at hc
  have : c.toNat ≠ 48 := fun e => h (UInt8.toNat_inj.1 e)
  omega

/-- Digits without a zero ahead are the digits of what they spell. -/
theorem dec_of_digits (n : Nat) : ∀ l : List UInt8, l.length = n → l ≠ [] → (∀ c ∈ l, isDig c) → (l.length = 1 ∨ ∀ r c, l = c :: r → c ≠ 48) → Lib.decDigits (spell 0 l) = l := by
  induction n with
  | zero => intro l h1 h2; exact absurd (List.eq_nil_of_length_eq_zero h1) h2
  | succ n ih =>
    intro l hl hne hd hz
    obtain ⟨l', c, rfl⟩ : ∃ l' c, l = l' ++ [c] := ⟨l.dropLast, l.getLast hne, (List.dropLast_concat_getLast hne).symm⟩
    have hc : isDig c := hd c (by simp)
    unfold isDig at hc
    rw [spell_snoc]
    have hdg := dgt_eq c
    have e : UInt8.ofNat (48 + dgt c) = c := by
      apply UInt8.toNat_inj.1
      rw [UInt8.toNat_ofNat']; omega
    cases l' with
    | nil =>
      rw [spell_nil, Lib.decDigits, dif_pos (by omega), Nat.zero_mul, Nat.zero_add, e]
      rfl
    | cons b r =>
      have hb : b ≠ 48 := by
        rcases hz with h | h
        · simp at h
        · exact h _ _ rfl
      have hp := spell_pos r b (hd b (by simp)) hb
      rw [Lib.decDigits, dif_neg (by omega)]
      rw [show (spell 0 (b :: r) * 10 + dgt c) / 10 = spell 0 (b :: r) by omega, show (spell 0 (b :: r) * 10 + dgt c) % 10 = dgt c by omega]
      rw [ih (b :: r) (by simpa using hl) (by simp) (fun d hd' => hd d (by simp at hd' ⊢; rcases hd' with h | h <;> simp [h])) (.inr (fun r' c' h => by injection h with h1 h2; rw [← h1]; exact hb)), e]

/-- The document's Number. -/
def numR (s : List UInt8) : Option Int :=
  if s.head? = some 45 then (match s.tail with | [] => none | c :: r => if c = 48 then none else numLoop true 0 (c :: r))
  else (match s with | [] => none | c :: r => if c = 48 ∧ r ≠ [] then none else numLoop false 0 (c :: r))

theorem numR_itoa (n : Int) (h0 : -9223372036854775808 ≤ n) (h1 : n ≤ 9223372036854775807) : numR (Lib.itoa n) = some n := by
  unfold Lib.itoa
  by_cases hn : n < 0
  · rw [if_pos hn]
    obtain ⟨c, r, he, hc⟩ := dec_first n.natAbs (by omega)
    obtain ⟨d1, d2⟩ := dec_spell n.natAbs
    unfold numR
    simp only [List.head?_cons, if_true, List.tail_cons, he, if_neg hc]
    rw [← he]
    have := loop_neg_mk (Lib.decDigits n.natAbs) 0 d1 (by rw [d2]; omega)
    rw [d2] at this
    simp only [Int.natCast_zero, Int.neg_zero] at this
    rw [this]
    congr 1; omega
  · rw [if_neg hn]
    obtain ⟨d1, d2⟩ := dec_spell n.toNat
    obtain ⟨c, r, he, hc1, hc2⟩ := dec_head n.toNat
    have h45 : ¬ (Lib.decDigits n.toNat).head? = some 45 := by
      rw [he]; simp; intro e; subst e; revert hc1; decide
    unfold numR
    rw [if_neg h45]
    have hz : ¬ (c = 48 ∧ r ≠ []) := by
      rintro ⟨rfl, hr⟩
      by_cases h1 : 1 ≤ n.toNat
      · obtain ⟨c', r', he', hc'⟩ := dec_first n.toNat h1
        rw [he] at he'; injection he' with a b; exact hc' a.symm
      · have h0 : n.toNat = 0 := by omega
        rw [h0, Lib.decDigits, dif_pos (by omega)] at he
        injection he with a b; exact hr b.symm
    rw [he]
    simp only [if_neg hz]
    rw [← he]
    have := loop_pos_mk (Lib.decDigits n.toNat) 0 d1 (by rw [d2]; omega)
    rw [d2] at this
    simp only [Int.natCast_zero] at this
    rw [this]
    congr 1; omega

theorem itoa_of_numR {s : List UInt8} {n : Int} (h : numR s = some n) : Lib.itoa n = s ∧ -9223372036854775808 ≤ n ∧ n ≤ 9223372036854775807 := by
  unfold numR at h
  by_cases h45 : s.head? = some 45
  · rw [if_pos h45] at h
    obtain ⟨t, rfl⟩ : ∃ t, s = 45 :: t := by
      cases s with
      | nil => simp at h45
      | cons a t => simp at h45; exact ⟨t, by rw [h45]⟩
    simp only [List.tail_cons] at h
    cases t with
    | nil => simp at h
    | cons c r =>
      simp only at h
      by_cases hc : c = 48
      · rw [if_pos hc] at h; cases h
      · rw [if_neg hc] at h
        obtain ⟨d1, d2, d3⟩ := loop_neg (c :: r) 0 n (by simpa using h) (by omega)
        have hp := spell_pos r c (d1 c (by simp)) hc
        refine ⟨?_, d3, by omega⟩
        unfold Lib.itoa
        rw [if_pos (by omega), show n.natAbs = spell 0 (c :: r) by omega, dec_of_digits _ (c :: r) rfl (by simp) d1 (.inr (fun r' c' e => by injection e with e1 e2; rw [← e1]; exact hc))]
  · rw [if_neg h45] at h
    cases s with
    | nil => simp at h
    | cons c r =>
      simp only at h
      by_cases hz : c = 48 ∧ r ≠ []
      · rw [if_pos hz] at h; cases h
      · rw [if_neg hz] at h
        obtain ⟨d1, d2, d3⟩ := loop_pos (c :: r) 0 n (by simpa using h) (by omega)
        refine ⟨?_, by omega, d3⟩
        unfold Lib.itoa
        rw [if_neg (by omega), show n.toNat = spell 0 (c :: r) by omega, dec_of_digits _ (c :: r) rfl (by simp) d1 ?_]
        by_cases hr : r = []
        · left; simp [hr]
        · right; intro r' c' e; injection e with e1 e2; rw [← e1]; exact fun hc => hz ⟨hc, hr⟩

end Go.Proofs.YtoekdeoekcmpgaaGreatDoor
