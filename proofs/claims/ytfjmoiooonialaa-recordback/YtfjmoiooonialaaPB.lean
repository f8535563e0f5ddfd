/- Plain: a value's literal, the value that a text looks like, and that the second undoes the first. Of no program. -/
import Derived.Test.YtfjmoiooonialaaPA
namespace Go.Proofs.Ytfjmoiooonialaa
open Go

/-- 0123456789abcdef -/
def dig16 : List UInt8 := [48, 49, 50, 51, 52, 53, 54, 55, 56, 57, 97, 98, 99, 100, 101, 102]

/-- Two digits as one byte, as the program reckons it. -/
def pairB (a b : UInt8) : UInt8 := UInt8.ofNat (IntKind.u8.wrap (IntKind.i64.wrap (BitVec.ofInt 64 (IntKind.i64.wrap (Lib.indexByte dig16 a * 16)) ||| BitVec.ofInt 64 (Lib.indexByte dig16 b)).toNat)).toNat

def unhexL : List UInt8 → List UInt8
  | a :: b :: r => pairB a b :: unhexL r
  | _ => []

theorem pair_hex : ∀ b : Fin 256, pairB (hexd (b.val / 16)) (hexd (b.val % 16)) = UInt8.ofNat b.val := by decide +kernel

theorem unhex_hexs (t r : List UInt8) (h : r.length ≤ 1) : unhexL (hexs t ++ r) = t := by
  induction t with
  | nil =>
    match r, h with
    | [], _ => rfl
    | [a], _ => rfl
    | a :: b :: r, h => simp at h
  | cons c t ih =>
    simp only [hexs, List.cons_append, unhexL]
    rw [ih]
    have := pair_hex ⟨c.toNat, c.toNat_lt⟩
    simp only at this
    rw [this]
    simp

theorem unhexL_length : ∀ l : List UInt8, (unhexL l).length = l.length / 2
  | [] => rfl
  | [_] => by simp [unhexL]
  | a :: b :: r => by simp [unhexL, unhexL_length r]; omega

def nullL : List UInt8 := [78, 85, 76, 76]

/-- The literal of a value of kind k, integer n, bytes t. -/
def printL (k n : Int) (t : List UInt8) : List UInt8 :=
  if k = 1 then Lib.itoa n else if k = 2 then 39 :: (esc t ++ [39]) else if k = 3 then 120 :: 39 :: (hexs t ++ [39]) else nullL

/-- May the value be? -/
def MayL (k n : Int) (t : List UInt8) : Prop :=
  (k = 0 ∧ n = 0 ∧ t = []) ∨ (k = 1 ∧ t = []) ∨ ((k = 2 ∨ k = 3) ∧ n = 0 ∧ t.length ≤ 400)

/-- The integer that ParseInt hands back, right or wrong. -/
def numL (s : List UInt8) : Int :=
  match Lib.parseIntB 64 s with
  | .ok v => v
  | .syntax => 0
  | .range => Lib.intSat 64 s

def guessK (s : List UInt8) : Int := if s = nullL then 0 else if Lib.hasPrefix s [39] then 2 else if Lib.hasPrefix s [120, 39] then 3 else 1
def guessN (s : List UInt8) : Int := if s = nullL then 0 else if Lib.hasPrefix s [39] then 0 else if Lib.hasPrefix s [120, 39] then 0 else numL s
def guessT (s : List UInt8) : List UInt8 :=
  if s = nullL then [] else if Lib.hasPrefix s [39] then Lib.replaceAll (Lib.trimSuffix (s.drop 1) [39]) [39, 39] [39] else if Lib.hasPrefix s [120, 39] then unhexL (s.drop 2) else []

theorem itoa_head (n : Int) : ∃ c r, Lib.itoa n = c :: r ∧ (c.toNat = 45 ∨ 48 ≤ c.toNat ∧ c.toNat ≤ 57) := by
  unfold Lib.itoa
  split
  · exact ⟨_, _, rfl, .inl rfl⟩
  · obtain ⟨c, r, he, h1, h2⟩ := dec_head n.toNat
    exact ⟨c, r, he, .inr ⟨h1, h2⟩⟩

theorem guess_print {k n : Int} {t : List UInt8} (h0 : -9223372036854775808 ≤ n) (h1 : n ≤ 9223372036854775807) (hm : MayL k n t) :
    guessK (printL k n t) = k ∧ guessN (printL k n t) = n ∧ guessT (printL k n t) = t := by
  rcases hm with ⟨rfl, rfl, rfl⟩ | ⟨rfl, rfl⟩ | ⟨rfl | rfl, rfl, ht⟩
  · simp [guessK, guessN, guessT, printL]
  · obtain ⟨c, r, he, hc⟩ := itoa_head n
    have e1 : ¬ Lib.itoa n = nullL := by
      rw [he]; intro e; injection e with e _; subst e; revert hc; decide
    have e2 : Lib.hasPrefix (Lib.itoa n) [39] = false := by
      rw [he]; unfold Lib.hasPrefix
      have : ¬ c = 39 := fun e => by subst e; revert hc; decide
      simp [List.isPrefixOf]; exact fun e => this e.symm
    have e3 : Lib.hasPrefix (Lib.itoa n) [120, 39] = false := by
      rw [he]; unfold Lib.hasPrefix
      have : ¬ c = 120 := fun e => by subst e; revert hc; decide
      simp only [List.isPrefixOf, Bool.and_eq_false_iff]
      exact .inl (by simp; exact fun e => this e.symm)
    have hp : printL 1 n [] = Lib.itoa n := by simp [printL]
    rw [hp]
    refine ⟨?_, ?_, ?_⟩
    · simp [guessK, e1, e2, e3]
    · simp [guessN, e1, e2, e3, numL, parse_itoa n h0 h1]
    · simp [guessT, e1, e2, e3]
  · have hp : printL 2 0 t = 39 :: (esc t ++ [39]) := by simp [printL]
    have e1 : ¬ (39 :: (esc t ++ [39])) = nullL := by unfold nullL; intro e; injection e with e _; revert e; decide
    have e2 : Lib.hasPrefix (39 :: (esc t ++ [39])) [39] = true := by simp [Lib.hasPrefix]
    rw [hp]
    refine ⟨?_, ?_, ?_⟩
    · simp [guessK, e1, e2]
    · simp [guessN, e1, e2]
    · have e3 : Lib.trimSuffix (esc t ++ [39]) [39] = esc t := by
        unfold Lib.trimSuffix Lib.hasSuffix
        rw [if_pos (by simp)]
        simp
      simp only [guessT, if_neg e1, e2, if_true, List.drop_succ_cons, List.drop_zero, e3]
      exact unesc_esc t
  · have hp : printL 3 0 t = 120 :: 39 :: (hexs t ++ [39]) := by simp [printL]
    have e1 : ¬ (120 :: 39 :: (hexs t ++ [39])) = nullL := by unfold nullL; intro e; injection e with e _; revert e; decide
    have e2 : Lib.hasPrefix (120 :: 39 :: (hexs t ++ [39])) [39] = false := by simp [Lib.hasPrefix, List.isPrefixOf]
    have e3 : Lib.hasPrefix (120 :: 39 :: (hexs t ++ [39])) [120, 39] = true := by simp [Lib.hasPrefix, List.isPrefixOf]
    rw [hp]
    refine ⟨?_, ?_, ?_⟩
    · simp [guessK, e1, e2, e3]
    · simp [guessN, e1, e2, e3]
    · simp only [guessT, if_neg e1, e2, e3, if_true, List.drop_succ_cons, List.drop_zero]
      exact unhex_hexs t [39] (by simp)

theorem printL_length {k n : Int} {t : List UInt8} (h0 : -9223372036854775808 ≤ n) (h1 : n ≤ 9223372036854775807) (hm : MayL k n t) : (printL k n t).length ≤ 1000 := by
  rcases hm with ⟨rfl, rfl, rfl⟩ | ⟨rfl, rfl⟩ | ⟨rfl | rfl, rfl, ht⟩
  · simp [printL, nullL]
  · have := itoa_length n h0 h1
    simp [printL]; omega
  · have := esc_length t
    simp [printL]; omega
  · have := hexs_length t
    simp [printL]; omega

end Go.Proofs.Ytfjmoiooonialaa
