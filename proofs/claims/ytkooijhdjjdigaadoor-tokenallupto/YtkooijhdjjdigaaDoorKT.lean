/- Plain: tokens that are written are read as they were. Of no program. -/
import Derived.Test.YtkooijhdjjdigaaDoorKI
namespace Go.Proofs.YtkooijhdjjdigaaDoor
open Go.ChangeShapes Go.WideShapes Go.ChangeAt Go.RowKit
set_option linter.unusedVariables false

def esc : List UInt8 → List UInt8
  | [] => []
  | c :: r => if c = 39 then 39 :: 39 :: esc r else c :: esc r

theorem esc_length (l : List UInt8) : (esc l).length ≤ 2 * l.length := by
  induction l with
  | nil => simp [esc]
  | cons c r ih => unfold esc; split <;> simp <;> omega


def hexd (n : Nat) : UInt8 := if n < 10 then UInt8.ofNat (48 + n) else UInt8.ofNat (87 + n)

def hexs : List UInt8 → List UInt8
  | [] => []
  | b :: r => hexd (b.toNat / 16) :: hexd (b.toNat % 16) :: hexs r

theorem hexs_length (l : List UInt8) : (hexs l).length = 2 * l.length := by
  induction l with
  | nil => rfl
  | cons c r ih => simp [hexs, ih]; omega


theorem hexs_snoc (l : List UInt8) (c : UInt8) : hexs (l ++ [c]) = hexs l ++ [hexd (c.toNat / 16), hexd (c.toNat % 16)] := by
  induction l with
  | nil => rfl
  | cons a r ih => simp [hexs, ih]
theorem esc_snoc (l : List UInt8) (c : UInt8) : esc (l ++ [c]) = esc l ++ (if c = 39 then [39, 39] else [c]) := by
  induction l with
  | nil => simp only [List.nil_append, esc]
  | cons a r ih => simp only [List.cons_append, esc, ih]; split <;> simp

theorem unq_esc (t : List UInt8) : unq (esc t) = some t := by
  induction t with
  | nil => rfl
  | cons c r ih =>
    by_cases hc : c = 39
    · subst hc
      rw [show esc (39 :: r) = 39 :: 39 :: esc r by simp [esc], unq_two, ih]; rfl
    · rw [show esc (c :: r) = c :: esc r by simp [esc, hc], unq_cons hc, ih]; rfl

theorem nib_hexd : ∀ a : Fin 16, nibR (hexd a.val) = some a.val := by decide +kernel
theorem hexd_nib : ∀ c : Fin 256, ∀ a : Fin 16, nibR (UInt8.ofNat c.val) = some a.val → hexd a.val = UInt8.ofNat c.val := by decide +kernel
theorem unhx_hexs (t : List UInt8) : unhx (hexs t) = some t := by
  induction t with
  | nil => rfl
  | cons c r ih =>
    have hc := c.toNat_lt
    have h1 := nib_hexd ⟨c.toNat / 16, by omega⟩
    have h2 := nib_hexd ⟨c.toNat % 16, by omega⟩
    simp only at h1 h2
    simp only [hexs, unhx, h1, h2, ih, Option.map_some]
    rw [show c.toNat / 16 * 16 + c.toNat % 16 = c.toNat by omega]
    simp


theorem hexd_facts : ∀ a : Fin 16, hexB (hexd a.val) = true ∧ (hexd a.val).toNat ≠ 39 ∧ lowB (hexd a.val) = hexd a.val := by decide +kernel
theorem hexd_f (a : Nat) (h : a < 16) : hexB (hexd a) = true ∧ (hexd a).toNat ≠ 39 ∧ lowB (hexd a) = hexd a := hexd_facts ⟨a, h⟩
theorem hexs_low (t : List UInt8) : (hexs t).map lowB = hexs t := by
  induction t with
  | nil => rfl
  | cons c r ih =>
    have h1 := hexd_f (c.toNat / 16) (by have := c.toNat_lt; omega)
    have h2 := hexd_f (c.toNat % 16) (by omega)
    simp [hexs, ih, h1.2.2, h2.2.2]
theorem quo_esc (t R : List UInt8) (hR : (R.head?.map UInt8.toNat) ≠ some 39) : quo (esc t ++ 39 :: R) = some ((esc t).length + 1) := by
  induction t with
  | nil => exact quo_end rfl hR
  | cons c r ih =>
    by_cases hc : c = 39
    · subst hc
      rw [show esc (39 :: r) = 39 :: 39 :: esc r by simp [esc]]
      show quo (39 :: 39 :: (esc r ++ 39 :: R)) = _
      rw [quo_two rfl rfl, ih]; simp
    · rw [show esc (c :: r) = c :: esc r by simp [esc, hc]]
      show quo (c :: (esc r ++ 39 :: R)) = _
      rw [quo_not (fun e => hc (UInt8.toNat_inj.1 e)), ih]; simp
theorem blo_hexs (t R : List UInt8) : blo false (hexs t ++ 39 :: R) = some ((hexs t).length + 1) := by
  induction t with
  | nil => simp [hexs, blo]
  | cons c r ih =>
    have h1 := hexd_f (c.toNat / 16) (by have := c.toNat_lt; omega)
    have h2 := hexd_f (c.toNat % 16) (by omega)
    show blo false (hexd (c.toNat / 16) :: hexd (c.toNat % 16) :: (hexs r ++ 39 :: R)) = _
    rw [blo, if_neg h1.2.1, if_pos h1.1, blo, if_neg h2.2.1, if_pos h2.1, Bool.not_false, Bool.not_true, ih]
    simp [hexs]
/-- What may stand right behind a token that is written: nothing, or a blank. -/
def Brk (R : List UInt8) : Prop := ∀ c, R.head? = some c → c = 32 ∨ c = 10
theorem Brk.ne {R : List UInt8} (h : Brk R) : (R.head?.map fun c => letB c || digB c).getD false = false ∧ (R.head?.map digB).getD false = false ∧ (R.head?.map UInt8.toNat) ≠ some 39 ∧ (R.head?.map UInt8.toNat) ≠ some 45 ∧ ∀ a, (R.head?.map (paiB a)).getD false = false := by
  cases hR : R.head? with
  | none => simp
  | some c =>
    rcases h c hR with rfl | rfl
    · refine ⟨by decide, by decide, by decide, by decide, fun a => ?_⟩
      simp [paiB]
    · refine ⟨by decide, by decide, by decide, by decide, fun a => ?_⟩
      simp [paiB]
theorem wrd_app : ∀ (l R : List UInt8), wrd l = l.length → (R.head?.map fun c => letB c || digB c).getD false = false → wrd (l ++ R) = l.length
  | [], R, _, h => by
    cases R with
    | nil => rfl
    | cons c r => simp at h; rw [List.nil_append, wrd_cons, if_neg (by simp [h])]; rfl
  | c :: l, R, hl, h => by
    rw [wrd_cons] at hl
    split at hl
    · rename_i hc
      rw [List.cons_append, wrd_cons, if_pos hc, wrd_app l R (by simp at hl; exact hl) h]; rfl
    · simp at hl
theorem dgs_app : ∀ (l R : List UInt8), dgs l = l.length → (R.head?.map digB).getD false = false → dgs (l ++ R) = l.length
  | [], R, _, h => by
    cases R with
    | nil => rfl
    | cons c r => simp at h; rw [List.nil_append, dgs_cons, if_neg (by simp [h])]; rfl
  | c :: l, R, hl, h => by
    rw [dgs_cons] at hl
    split at hl
    · rename_i hc
      rw [List.cons_append, dgs_cons, if_pos hc, dgs_app l R (by simp at hl; exact hl) h]; rfl
    · simp at hl
theorem head_app {r R : List UInt8} {n : Nat} (h : (r.head?.map UInt8.toNat) ≠ some n) (hR : (R.head?.map UInt8.toNat) ≠ some n) : ((r ++ R).head?.map UInt8.toNat) ≠ some n := by
  cases r with
  | nil => exact hR
  | cons c r => exact h
theorem tok_app {s R : List UInt8} {k : Nat} (h : tok s = some (s.length, k)) (h3 : k ≠ 3) (h4 : k ≠ 4) (hR : Brk R) : tok (s ++ R) = some (s.length, k) := by
  obtain ⟨b1, b2, b3, b4, b5⟩ := hR.ne
  cases s with
  | nil => simp [tok] at h
  | cons c r =>
    rw [tok] at h
    rw [List.cons_append, tok]
    split at h
    · cases hq : quo r with
      | none => rw [hq] at h; simp at h
      | some m => rw [hq] at h; simp at h; omega
    rename_i h39
    rw [if_neg h39]
    split at h
    · cases hq : blo false r.tail with
      | none => rw [hq] at h; simp at h
      | some m => rw [hq] at h; simp at h; omega
    rename_i hx
    have hx2 : ¬ ((c.toNat = 120 ∨ c.toNat = 88) ∧ ((r ++ R).head?.map UInt8.toNat) = some 39) := fun ⟨q1, q2⟩ => head_app (fun e => hx ⟨q1, e⟩) b3 q2
    rw [if_neg hx2]
    split at h
    · rename_i hl
      simp at h
      rw [if_pos hl, wrd_app r R h.1 b1]
      simp [h.2]
    rename_i hl
    rw [if_neg hl]
    split at h
    · rename_i hd
      simp at h
      rw [if_pos hd, dgs_app r R h.1 b2]
      simp [h.2]
    rename_i hd
    rw [if_neg hd]
    split at h
    · rename_i hp
      simp at h
      rw [if_pos hp, dgs_app r R h.1 b2]
      simp [h.2]
    rename_i hp
    rw [if_neg hp]
    split at h
    · rename_i hq
      cases r with
      | nil => simp at hq
      | cons d r =>
        simp at h
        obtain ⟨e1, e2⟩ := h
        have : r = [] := by first | exact e1 | exact e1.symm | exact List.length_eq_zero_iff.1 (by omega) | exact List.length_eq_zero_iff.1 (by simp at e1; omega)
        subst this
        rw [if_pos (by simpa using hq)]
        simp [e2]
    rename_i hq
    split at h
    · rename_i hs
      simp at h
      obtain ⟨e1, e2⟩ := h
      have : r = [] := by first | exact e1 | exact List.length_eq_zero_iff.1 e1
      subst this
      rw [if_neg (by rw [List.nil_append, b5 c]; simp), if_pos hs]
      simp [e2]
    · simp at h
/-- A text that begins a token of its own begins with no blank and no remark. -/
theorem skp_tok {s R : List UInt8} {k : Nat} (h : tok s = some (s.length, k)) (hR : Brk R) : skp false (s ++ R) = 0 := by
  obtain ⟨b1, b2, b3, b4, b5⟩ := hR.ne
  cases s with
  | nil => simp [tok] at h
  | cons c r =>
    have hb : blkB c = false := by
      cases hb : blkB c with
      | false => rfl
      | true =>
        exfalso
        have hc : c.toNat = 32 ∨ c.toNat = 9 ∨ c.toNat = 10 ∨ c.toNat = 13 := by simpa [blkB] using hb
        have e1 : letB c = false := by simp [letB]; omega
        have e2 : digB c = false := by simp [digB]; omega
        have e3 : sinB c = false := by
          have : c = 32 ∨ c = 9 ∨ c = 10 ∨ c = 13 := by
            rcases hc with h | h | h | h
            · exact .inl (UInt8.toNat_inj.1 h)
            · exact .inr (.inl (UInt8.toNat_inj.1 h))
            · exact .inr (.inr (.inl (UInt8.toNat_inj.1 h)))
            · exact .inr (.inr (.inr (UInt8.toNat_inj.1 h)))
          rcases this with rfl | rfl | rfl | rfl <;> decide
        have e4 : (r.head?.map (paiB c)).getD false = false := by
          cases r.head? with
          | none => rfl
          | some d => simp [paiB]; omega
        rw [tok, if_neg (by omega), if_neg (fun h => by omega), if_neg (by simp [e1]), if_neg (by simp [e2]), if_neg (by omega), if_neg (by simp [e4]), if_neg (by simp [e3])] at h
        cases h
    rw [List.cons_append]
    refine skp_not hb ?_
    rintro ⟨h45, h2⟩
    have e1 : letB c = false := by simp [letB, h45]
    have e2 : digB c = false := by simp [digB, h45]
    have hc : c = 45 := UInt8.toNat_inj.1 h45
    subst hc
    have e4 : (r.head?.map (paiB 45)).getD false = false := by
      cases r.head? with
      | none => rfl
      | some d => simp [paiB]
    rw [tok, if_neg (by decide), if_neg (by intro h; revert h; simp), if_neg (by simp [e1]), if_neg (by simp [e2]), if_neg (by decide), if_neg (by simp [e4]), if_pos (by decide)] at h
    simp at h
    have : r = [] := by first | exact h.1 | exact List.length_eq_zero_iff.1 h.1
    subst this
    exact b4 h2
end Go.Proofs.YtkooijhdjjdigaaDoor
