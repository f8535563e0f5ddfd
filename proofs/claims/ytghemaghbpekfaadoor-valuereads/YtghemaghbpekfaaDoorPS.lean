/- Plain: the document's reading of a literal takes just what is written. Of no program. -/
import Derived.Test.YtghemaghbpekfaaDoorPR
namespace Go.Proofs.YtghemaghbpekfaaDoor
open Go

def unq : List UInt8 → Option (List UInt8)
  | [] => some []
  | [c] => if c = 39 then none else some [c]
  | c :: d :: r => if c = 39 then (if d = 39 then (unq r).map (39 :: ·) else none) else (unq (d :: r)).map (c :: ·)

theorem unq_cons {c : UInt8} (hc : c ≠ 39) (r : List UInt8) : unq (c :: r) = (unq r).map (c :: ·) := by
  cases r with
  | nil => simp [unq, hc]
  | cons d r => rw [unq, if_neg hc]
theorem unq_two (r : List UInt8) : unq (39 :: 39 :: r) = (unq r).map (39 :: ·) := by rw [unq, if_pos rfl, if_pos rfl]

theorem unq_esc (t : List UInt8) : unq (esc t) = some t := by
  induction t with
  | nil => rfl
  | cons c r ih =>
    by_cases hc : c = 39
    · subst hc
      rw [show esc (39 :: r) = 39 :: 39 :: esc r by simp [esc], unq_two, ih]; rfl
    · rw [show esc (c :: r) = c :: esc r by simp [esc, hc], unq_cons hc, ih]; rfl

theorem esc_of_unq (n : Nat) : ∀ s t : List UInt8, s.length ≤ n → unq s = some t → esc t = s := by
  induction n with
  | zero =>
    intro s t hs h
    obtain rfl : s = [] := List.eq_nil_of_length_eq_zero (by omega)
    simp [unq] at h; subst h; rfl
  | succ n ih =>
    intro s t hs h
    match s, hs, h with
    | [], _, h => simp [unq] at h; subst h; rfl
    | c :: r, hs, h =>
      by_cases hc : c = 39
      · subst hc
        cases r with
        | nil => simp [unq] at h
        | cons d r =>
          rw [unq, if_pos rfl] at h
          by_cases hd : d = 39
          · subst hd
            rw [if_pos rfl] at h
            obtain ⟨t', h1, rfl⟩ := Option.map_eq_some_iff.1 h
            have := ih r t' (by simp at hs; omega) h1
            simp [esc, this]
          · rw [if_neg hd] at h; cases h
      · rw [unq_cons hc] at h
        obtain ⟨t', h1, rfl⟩ := Option.map_eq_some_iff.1 h
        have := ih r t' (by simp at hs; omega) h1
        simp [esc, hc, this]

/-- What a digit to the base 16 is worth. -/
def nibR (c : UInt8) : Option Nat := if 48 ≤ c.toNat ∧ c.toNat ≤ 57 then some (c.toNat - 48) else if 97 ≤ c.toNat ∧ c.toNat ≤ 102 then some (c.toNat - 87) else none

theorem nib_hexd : ∀ a : Fin 16, nibR (hexd a.val) = some a.val := by decide +kernel
theorem hexd_nib : ∀ c : Fin 256, ∀ a : Fin 16, nibR (UInt8.ofNat c.val) = some a.val → hexd a.val = UInt8.ofNat c.val := by decide +kernel
theorem nib_lt {c : UInt8} {a : Nat} (h : nibR c = some a) : a < 16 := by
  unfold nibR at h
  split at h
  · injection h with h; omega
  · split at h
    · injection h with h; omega
    · cases h
theorem hexd_of_nib {c : UInt8} {a : Nat} (h : nibR c = some a) : hexd a = c := by
  have := hexd_nib ⟨c.toNat, c.toNat_lt⟩ ⟨a, nib_lt h⟩
  simp only [UInt8.ofNat_toNat] at this
  exact this h

def unhx : List UInt8 → Option (List UInt8)
  | [] => some []
  | [_] => none
  | a :: b :: r => match nibR a, nibR b with
    | some x, some y => (unhx r).map (UInt8.ofNat (x * 16 + y) :: ·)
    | _, _ => none

theorem unhx_hexs (t : List UInt8) : unhx (hexs t) = some t := by
  induction t with
  | nil => rfl
  | cons c r ih =>
    have hc := c.toNat_lt
    have h1 := nib_hexd ⟨c.toNat / 16, by omega⟩
    have h2 := nib_hexd ⟨c.toNat % 16, by omega⟩
    simp only at h1 h2
    simp only [hexs, unhx, h1, h2, ih, Option.map_some]
    rw [show c.toNat / 16 * 16 + c.toNat % 16 = c.toNat by omega]
    simp

theorem hexs_of_unhx (n : Nat) : ∀ s t : List UInt8, s.length ≤ n → unhx s = some t → hexs t = s := by
  induction n with
  | zero =>
    intro s t hs h
    obtain rfl : s = [] := List.eq_nil_of_length_eq_zero (by omega)
    simp [unhx] at h; subst h; rfl
  | succ n ih =>
    intro s t hs h
    match s, hs, h with
    | [], _, h => simp [unhx] at h; subst h; rfl
    | [_], _, h => simp [unhx] at h
    | a :: b :: r, hs, h =>
      simp only [unhx] at h
      cases ha : nibR a with
      | none => rw [ha] at h; simp at h
      | some x =>
        cases hb : nibR b with
        | none => rw [ha, hb] at h; simp at h
        | some y =>
          rw [ha, hb] at h
          simp only at h
          obtain ⟨t', h1, rfl⟩ := Option.map_eq_some_iff.1 h
          have := ih r t' (by simp at hs; omega) h1
          have hx := nib_lt ha
          have hy := nib_lt hb
          have e : (UInt8.ofNat (x * 16 + y)).toNat = x * 16 + y := by rw [UInt8.toNat_ofNat']; omega
          simp only [hexs, e, this]
          rw [show (x * 16 + y) / 16 = x by omega, show (x * 16 + y) % 16 = y by omega, hexd_of_nib ha, hexd_of_nib hb]

/-- The document's Read, behind its test of the length. -/
def readR (s : List UInt8) : Option (Int × Int × List UInt8) :=
  if s = nullL then some (0, 0, []) else
  match numR s with
  | some n => some (1, n, [])
  | none =>
    if s.head? = some 120 then
      (if s.length < 3 ∨ s[1]? ≠ some 39 ∨ s[s.length - 1]? ≠ some 39 then none else
        match unhx ((s.drop 2).take (s.length - 3)) with
        | some b => if b.length ≤ 400 then some (3, 0, b) else none
        | none => none)
    else
      (if s.length < 2 ∨ s[0]? ≠ some 39 ∨ s[s.length - 1]? ≠ some 39 then none else
        match unq ((s.drop 1).take (s.length - 2)) with
        | some b => if b.length ≤ 400 then some (2, 0, b) else none
        | none => none)

theorem numR_no {c : UInt8} {r : List UInt8} (h : ¬ isDig c) (h45 : c ≠ 45) : numR (c :: r) = none := by
  unfold numR
  rw [if_neg (by simpa using h45)]
  simp only
  split
  · rfl
  · simp only [numLoop, if_neg h]

theorem readR_print {k n : Int} {t : List UInt8} (h0 : -9223372036854775808 ≤ n) (h1 : n ≤ 9223372036854775807) (hm : MayL k n t) : readR (printL k n t) = some (k, n, t) := by
  rcases hm with ⟨rfl, rfl, rfl⟩ | ⟨rfl, rfl⟩ | ⟨rfl | rfl, rfl, ht⟩
  · simp [printL, readR]
  · have hp : printL 1 n [] = Lib.itoa n := by simp [printL]
    rw [hp]
    obtain ⟨c, r, he, hc⟩ := itoa_head n
    have e1 : ¬ Lib.itoa n = nullL := by
      rw [he]; intro e; injection e with e _; subst e; revert hc; decide
    unfold readR
    rw [if_neg e1, numR_itoa n h0 h1]
  · have hp : printL 2 0 t = 39 :: (esc t ++ [39]) := by simp [printL]
    rw [hp]
    have e1 : ¬ (39 :: (esc t ++ [39])) = nullL := by unfold nullL; intro e; injection e with e _; revert e; decide
    unfold readR
    rw [if_neg e1, numR_no (by decide) (by decide)]
    simp only
    rw [if_neg (by simp), if_neg (by
      simp only [not_or, Decidable.not_not, List.length_cons, List.length_append, List.length_nil]
      refine ⟨by omega, rfl, ?_⟩
      rw [show (esc t).length + (0 + 1) + 1 - 1 = (esc t).length + 1 by omega]
      simp)]
    have e3 : ((39 :: (esc t ++ [39])).drop 1).take ((39 :: (esc t ++ [39])).length - 2) = esc t := by
      simp
    rw [e3, unq_esc]
    simp only
    rw [if_pos ht]
  · have hp : printL 3 0 t = 120 :: 39 :: (hexs t ++ [39]) := by simp [printL]
    rw [hp]
    have e1 : ¬ (120 :: 39 :: (hexs t ++ [39])) = nullL := by unfold nullL; intro e; injection e with e _; revert e; decide
    unfold readR
    rw [if_neg e1, numR_no (by decide) (by decide)]
    simp only
    rw [if_pos (by simp), if_neg (by
      simp only [not_or, Decidable.not_not, List.length_cons, List.length_append, List.length_nil]
      refine ⟨by omega, rfl, ?_⟩
      rw [show (hexs t).length + (0 + 1) + 1 + 1 - 1 = (hexs t).length + 1 + 1 by omega]
      simp)]
    have e3 : ((120 :: 39 :: (hexs t ++ [39])).drop 2).take ((120 :: 39 :: (hexs t ++ [39])).length - 3) = hexs t := by
      simp
    rw [e3, unhx_hexs]
    simp only
    rw [if_pos ht]

/-- A text between its first signs and a last one. -/
theorem split_last {l : List UInt8} {m : Nat} (hl : l.length = m + 1) (h : l[m]? = some 39) : l = l.take m ++ [39] := by
  have h1 : l = l.take m ++ l.drop m := (List.take_append_drop m l).symm
  have h2 : l.drop m = [39] := by
    rw [List.drop_eq_getElem_cons (by omega)]
    have h3 := List.getElem?_eq_some_iff.1 h
    obtain ⟨h4, h5⟩ := h3
    rw [h5, List.drop_of_length_le (by omega)]
  rw [h2] at h1
  exact h1

theorem print_of_readR {s : List UInt8} {k n : Int} {t : List UInt8} (h : readR s = some (k, n, t)) : MayL k n t ∧ printL k n t = s ∧ -9223372036854775808 ≤ n ∧ n ≤ 9223372036854775807 := by
  unfold readR at h
  by_cases e1 : s = nullL
  · rw [if_pos e1] at h
    simp only [Option.some.injEq, Prod.mk.injEq] at h
    obtain ⟨rfl, rfl, rfl⟩ := h
    exact ⟨.inl ⟨rfl, rfl, rfl⟩, by simp [printL, e1], by omega, by omega⟩
  · rw [if_neg e1] at h
    cases hn : numR s with
    | some m =>
      rw [hn] at h
      simp only [Option.some.injEq, Prod.mk.injEq] at h
      obtain ⟨rfl, rfl, rfl⟩ := h
      obtain ⟨h1, h2, h3⟩ := itoa_of_numR hn
      exact ⟨.inr (.inl ⟨rfl, rfl⟩), by simp [printL, h1], h2, h3⟩
    | none =>
      rw [hn] at h
      simp only at h
      by_cases hx : s.head? = some 120
      · rw [if_pos hx] at h
        by_cases hb : s.length < 3 ∨ s[1]? ≠ some 39 ∨ s[s.length - 1]? ≠ some 39
        · rw [if_pos hb] at h; cases h
        · rw [if_neg hb] at h
          simp only [not_or, Decidable.not_not] at hb
          obtain ⟨b1, b2, b3⟩ := hb
          match s, hx, b1, b2, b3, h with
          | a :: b :: r, hx, b1, b2, b3, h =>
            simp only [List.head?_cons, Option.some.injEq] at hx
            simp only [List.getElem?_cons_succ, List.getElem?_cons_zero, Option.some.injEq] at b2
            subst hx b2
            simp only [List.length_cons, List.drop_succ_cons, List.drop_zero] at h b1 b3
            obtain ⟨m, hm⟩ : ∃ m, r.length = m + 1 := ⟨r.length - 1, by omega⟩
            rw [show r.length + 1 + 1 - 1 = m + 1 + 1 by omega] at b3
            simp only [List.getElem?_cons_succ] at b3
            rw [show r.length + 1 + 1 - 3 = m by omega] at h
            have hr := split_last hm b3
            cases hu : unhx (r.take m) with
            | none => rw [hu] at h; simp at h
            | some bs =>
              rw [hu] at h
              simp only at h
              by_cases h4 : bs.length ≤ 400
              · rw [if_pos h4] at h
                simp only [Option.some.injEq, Prod.mk.injEq] at h
                obtain ⟨rfl, rfl, rfl⟩ := h
                have := hexs_of_unhx _ _ _ (Nat.le_refl _) hu
                refine ⟨.inr (.inr ⟨.inr rfl, rfl, h4⟩), ?_, by omega, by omega⟩
                simp only [printL]
                rw [if_neg (by decide), if_neg (by decide), if_pos trivial, this, ← hr]
              · rw [if_neg h4] at h; cases h
      · rw [if_neg hx] at h
        by_cases hb : s.length < 2 ∨ s[0]? ≠ some 39 ∨ s[s.length - 1]? ≠ some 39
        · rw [if_pos hb] at h; cases h
        · rw [if_neg hb] at h
          simp only [not_or, Decidable.not_not] at hb
          obtain ⟨b1, b2, b3⟩ := hb
          match s, b1, b2, b3, h with
          | a :: r, b1, b2, b3, h =>
            simp only [List.getElem?_cons_zero, Option.some.injEq] at b2
            subst b2
            simp only [List.length_cons, List.drop_succ_cons, List.drop_zero] at h b1 b3
            obtain ⟨m, hm⟩ : ∃ m, r.length = m + 1 := ⟨r.length - 1, by omega⟩
            rw [show r.length + 1 - 1 = m + 1 by omega] at b3
            simp only [List.getElem?_cons_succ] at b3
            rw [show r.length + 1 - 2 = m by omega] at h
            have hr := split_last hm b3
            cases hu : unq (r.take m) with
            | none => rw [hu] at h; simp at h
            | some bs =>
              rw [hu] at h
              simp only at h
              by_cases h4 : bs.length ≤ 400
              · rw [if_pos h4] at h
                simp only [Option.some.injEq, Prod.mk.injEq] at h
                obtain ⟨rfl, rfl, rfl⟩ := h
                have := esc_of_unq _ _ _ (Nat.le_refl _) hu
                refine ⟨.inr (.inr ⟨.inl rfl, rfl, h4⟩), ?_, by omega, by omega⟩
                simp only [printL]
                rw [if_neg (by decide), if_pos trivial, this, ← hr]
              · rw [if_neg h4] at h; cases h

/-- What the document's Read answers. -/
def refAs (s : List UInt8) (k n : Int) (t : List UInt8) (c : Int) : Prop :=
  (1000 < s.length ∧ k = 0 ∧ n = 0 ∧ t = [] ∧ c = 3) ∨ (s.length ≤ 1000 ∧ readR s = some (k, n, t) ∧ c = 0) ∨ (s.length ≤ 1000 ∧ readR s = none ∧ k = 0 ∧ n = 0 ∧ t = [] ∧ c = 120)

theorem readR_guess {s : List UInt8} {k n : Int} {t : List UInt8} (h : readR s = some (k, n, t)) : MayL (guessK s) (guessN s) (guessT s) ∧ printL (guessK s) (guessN s) (guessT s) = s := by
  obtain ⟨h1, h2, h3, h4⟩ := print_of_readR h
  obtain ⟨g1, g2, g3⟩ := guess_print h3 h4 h1
  rw [h2] at g1 g2 g3
  rw [g1, g2, g3]
  exact ⟨h1, h2⟩

end Go.Proofs.YtghemaghbpekfaaDoor
