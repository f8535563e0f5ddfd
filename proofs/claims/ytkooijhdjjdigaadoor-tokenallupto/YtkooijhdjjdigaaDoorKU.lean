/- Plain: what is printed of tokens is read with the same kinds and texts. Of no program. -/
import Derived.Test.YtkooijhdjjdigaaDoorKT
namespace Go.Proofs.YtkooijhdjjdigaaDoor
open Go.ChangeShapes Go.WideShapes Go.ChangeAt Go.RowKit
set_option linter.unusedVariables false

/-- A word, a number, a sign as it stands; a param behind its mark. -/
def bare (k : Int) (t : List UInt8) : List UInt8 := if k = 5 then 63 :: t else t
/-- How a token is written; nothing: it may not be. -/
def wrt (k : Int) (t : List UInt8) : Option (List UInt8) :=
  if k = 3 then some (39 :: (esc t ++ [39])) else if k = 4 then some (120 :: 39 :: (hexs t ++ [39]))
  else if 0 ≤ k ∧ tok (bare k t) = some ((bare k t).length, k.toNat) then some (bare k t) else none
def joinW : List (List UInt8) → List UInt8
  | [] => []
  | [a] => a
  | a :: b :: r => a ++ 32 :: joinW (b :: r)
theorem brk_nil : Brk [] := fun c h => by simp at h
theorem brk_blank (r : List UInt8) : Brk (32 :: r) := fun c h => by simp at h; exact .inl h.symm
theorem brk_line (r : List UInt8) : Brk (10 :: r) := fun c h => by simp at h; exact .inr h.symm
theorem wrt_tok {k : Int} {t s R : List UInt8} (h : wrt k t = some s) (hR : Brk R) : tok (s ++ R) = some (s.length, k.toNat) ∧ tokT s k.toNat = t ∧ 1 ≤ k ∧ k ≤ 6 ∧ skp false (s ++ R) = 0 := by
  have hn := hR.ne
  unfold wrt at h
  split at h
  · rename_i h3
    subst h3
    simp at h
    subst h
    refine ⟨?_, ?_, by decide, by decide, ?_⟩
    · show tok (39 :: (esc t ++ [39] ++ R)) = _
      rw [tok, if_pos (show (39 : UInt8).toNat = 39 from rfl), show esc t ++ [39] ++ R = esc t ++ 39 :: R by simp, quo_esc t R hn.2.2.1]
      simp
    · show tokT (39 :: (esc t ++ [39])) 3 = t
      rw [tokT, if_pos rfl, show 39 :: (esc t ++ [39]) = (39 :: esc t) ++ [39] from rfl, List.dropLast_concat]
      simp [unq_esc]
    · show skp false (39 :: (esc t ++ [39] ++ R)) = 0
      exact skp_not (by decide) (by intro h; exact absurd h.1 (by decide))
  rename_i h3
  split at h
  · rename_i h4
    subst h4
    simp at h
    subst h
    refine ⟨?_, ?_, by decide, by decide, ?_⟩
    · show tok (120 :: 39 :: (hexs t ++ [39] ++ R)) = _
      rw [tok, if_neg (show ¬ (120 : UInt8).toNat = 39 by decide), if_pos (show ((120 : UInt8).toNat = 120 ∨ (120 : UInt8).toNat = 88) ∧ Option.map UInt8.toNat (39 :: (hexs t ++ [39] ++ R)).head? = some 39 from ⟨.inl rfl, rfl⟩), List.tail_cons, show hexs t ++ [39] ++ R = hexs t ++ 39 :: R by simp, blo_hexs]
      simp
    · show tokT (120 :: 39 :: (hexs t ++ [39])) 4 = t
      rw [tokT, if_neg (by decide), if_pos rfl, show 120 :: 39 :: (hexs t ++ [39]) = (120 :: 39 :: hexs t) ++ [39] from rfl, List.dropLast_concat]
      show (unhx ((hexs t).map lowB)).getD [] = t
      rw [hexs_low, unhx_hexs]; rfl
    · show skp false (120 :: 39 :: (hexs t ++ [39] ++ R)) = 0
      exact skp_not (by decide) (by intro h; exact absurd h.1 (by decide))
  rename_i h4
  split at h
  · rename_i hh
    simp at h
    subst h
    have hk : 1 ≤ k.toNat ∧ k.toNat ≤ 6 := by
      cases hb : bare k t with
      | nil => rw [hb] at hh; simp [tok] at hh
      | cons c r => have h1 := hh.2; rw [hb] at h1; have := tok_kind h1; exact ⟨this.1, this.2.1⟩
    refine ⟨tok_app hh.2 (by omega) (by omega) hR, ?_, by omega, by omega, skp_tok hh.2 hR⟩
    unfold tokT bare
    rw [if_neg (by omega), if_neg (by omega)]
    by_cases h5 : k = 5
    · rw [if_pos (by omega), if_pos h5]; rfl
    · rw [if_neg (by omega), if_neg h5]
  · simp at h
theorem toks_step {f a n k : Nat} {l : List UInt8} (h : tok l = some (n, k)) : toks (f + 1) l a =
    (⟨k, a, tokT (l.take n) k⟩ :: (toks f (l.drop (n + skp false (l.drop n))) (a + n + skp false (l.drop n))).1,
       (a + n) :: (toks f (l.drop (n + skp false (l.drop n))) (a + n + skp false (l.drop n))).2.1,
       (toks f (l.drop (n + skp false (l.drop n))) (a + n + skp false (l.drop n))).2.2) := by
  cases l with
  | nil => simp [tok] at h
  | cons c l => exact toks_ok h
/-- The pairs of kinds and texts. -/
def kts (T : List Tk) : List (Int × List UInt8) := T.map fun x => ((x.k : Int), x.t)
theorem joinW_brk {w R : List UInt8} {ws : List (List UInt8)} (hR : Brk R) : ∃ R', joinW (w :: ws) ++ R = w ++ R' ∧ Brk R' := by
  cases ws with
  | nil => exact ⟨R, rfl, hR⟩
  | cons b r => exact ⟨32 :: (joinW (b :: r) ++ R), by simp [joinW], brk_blank _⟩
theorem read_back : ∀ (l : List (Int × List UInt8)) (ws : List (List UInt8)) (f a : Nat) (R : List UInt8), l ≠ [] → (l.mapM fun x => wrt x.1 x.2) = some ws → Brk R → skp false R = R.length → l.length ≤ f →
    kts (toks f (joinW ws ++ R) a).1 = l ∧ (toks f (joinW ws ++ R) a).2.2 = -1
  | [], ws, f, a, R, h0, _, _, _, _ => absurd rfl h0
  | [x], ws, f, a, R, _, h, hR, hS, hf => by
    obtain ⟨f, rfl⟩ : ∃ g, f = g + 1 := ⟨f - 1, by simp at hf; omega⟩
    cases hw : wrt x.1 x.2 with
    | none => simp [hw] at h
    | some w =>
      obtain rfl : [w] = ws := by simpa [hw] using h
      obtain ⟨h1, h2, h3, h4, h5⟩ := wrt_tok hw hR
      rw [joinW, toks_step h1, List.drop_left, List.take_left, hS, List.drop_of_length_le (by simp), toks_nil, h2]
      refine ⟨?_, rfl⟩
      simp only [kts, List.map_cons, List.map_nil]
      rw [show ((x.1.toNat : Nat) : Int) = x.1 by omega]
  | x :: y :: r, ws, f, a, R, _, h, hR, hS, hf => by
    obtain ⟨f, rfl⟩ : ∃ g, f = g + 1 := ⟨f - 1, by simp at hf; omega⟩
    rw [List.mapM_cons] at h
    cases hw : wrt x.1 x.2 with
    | none => simp [hw] at h
    | some w =>
      cases hv : (y :: r).mapM fun x => wrt x.1 x.2 with
      | none => rw [hw, hv] at h; simp at h
      | some vs =>
        rw [hw, hv] at h
        obtain rfl : w :: vs = ws := by simpa using h
        have hvn : vs ≠ [] := by
          rintro rfl
          rw [List.mapM_cons] at hv
          cases hy : wrt y.1 y.2 with
          | none => simp [hy] at hv
          | some u =>
            cases hz : r.mapM fun x => wrt x.1 x.2 with
            | none => simp [hy, hz] at hv
            | some us => simp [hy, hz] at hv
        obtain ⟨v, vs, rfl⟩ : ∃ v vs', vs = v :: vs' := by
          cases vs with
          | nil => exact absurd rfl hvn
          | cons v vs => exact ⟨v, vs, rfl⟩
        have hskip : skp false (joinW (v :: vs) ++ R) = 0 := by
          obtain ⟨R', e, hR'⟩ := joinW_brk (w := v) (ws := vs) hR
          rw [e]
          rw [List.mapM_cons] at hv
          cases hy : wrt y.1 y.2 with
          | none => simp [hy] at hv
          | some u =>
            cases hz : r.mapM fun x => wrt x.1 x.2 with
            | none => simp [hy, hz] at hv
            | some us =>
              obtain ⟨rfl, rfl⟩ : u = v ∧ us = vs := by simpa [hy, hz] using hv
              exact (wrt_tok hy hR').2.2.2.2
        obtain ⟨h1, h2, h3, h4, h5⟩ := wrt_tok hw (brk_blank (joinW (v :: vs) ++ R))
        have ih := read_back (y :: r) (v :: vs) f (a + w.length + 1) R (by simp) hv hR hS (by simp at hf ⊢; omega)
        have e1 : joinW (w :: v :: vs) ++ R = w ++ 32 :: (joinW (v :: vs) ++ R) := by simp [joinW]
        have e2 : skp false (32 :: (joinW (v :: vs) ++ R)) = 1 := by rw [skp_blk (by decide), hskip]
        rw [e1, toks_step h1, List.drop_left, List.take_left, e2, ← List.drop_drop, List.drop_left, h2, List.drop_one, List.tail_cons]
        refine ⟨?_, ih.2⟩
        have e3 := ih.1
        simp only [kts, List.map_cons] at e3 ⊢
        rw [e3, show ((x.1.toNat : Nat) : Int) = x.1 by omega]
end Go.Proofs.YtkooijhdjjdigaaDoor
