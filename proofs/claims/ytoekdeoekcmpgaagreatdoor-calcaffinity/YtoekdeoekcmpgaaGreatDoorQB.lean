/- Plain: a text that is a number, but for blanks at both ends. Of no program. -/
import Derived.Test.YtoekdeoekcmpgaaGreatDoorKG
namespace Go.Proofs.YtoekdeoekcmpgaaGreatDoor
open Go

theorem trimR_cons (c : UInt8) (r : List UInt8) : Lib.trimRightS (c :: r) blankL = if Lib.trimRightS r blankL = [] ∧ blankB c = true then [] else c :: Lib.trimRightS r blankL := by
  unfold Lib.trimRightS
  rw [List.reverse_cons, List.dropWhile_append]
  by_cases h : List.dropWhile (fun x => blankL.contains x) r.reverse = []
  · rw [h]
    simp only [List.isEmpty_nil, if_true, List.reverse_nil, true_and]
    by_cases hb : blankB c = true
    · rw [if_pos hb, List.dropWhile_cons, if_pos (show blankL.contains c = true from hb)]; rfl
    · rw [if_neg hb, List.dropWhile_cons, if_neg (show ¬ blankL.contains c = true from hb)]; rfl
  · have h2 : (List.dropWhile (fun x => blankL.contains x) r.reverse).isEmpty = false := by simpa using h
    rw [h2]
    rw [if_neg (by decide), if_neg (fun e => h (List.reverse_eq_nil_iff.1 e.1)), List.reverse_append]
    rfl
theorem trimL_cons' (c : UInt8) (r : List UInt8) : Lib.trimLeftS (c :: r) blankL = if blankB c = true then Lib.trimLeftS r blankL else c :: r := by
  unfold Lib.trimLeftS
  rw [List.dropWhile_cons]
  rfl
theorem trim_comm : ∀ l : List UInt8, Lib.trimS l blankL = Lib.trimRightS (Lib.trimLeftS l blankL) blankL
  | [] => rfl
  | c :: r => by
    have ih := trim_comm r
    unfold Lib.trimS at ih ⊢
    rw [trimR_cons, trimL_cons']
    by_cases hb : blankB c = true
    · rw [if_pos hb, ← ih]
      by_cases he : Lib.trimRightS r blankL = []
      · rw [if_pos ⟨he, hb⟩, he]
      · rw [if_neg (fun h => he h.1), trimL_cons', if_pos hb]
    · rw [if_neg hb, if_neg (fun h => hb h.2), trimL_cons', if_neg hb, trimR_cons, if_neg (fun h => hb h.2)]

theorem parse_ok : ∀ (l : List UInt8) (M acc : Nat) (u : Nat), Lib.parseUintM M acc l = .ok u → ∀ c ∈ l, isDig c
  | [], _, _, _, _ => fun c hc => by simp at hc
  | d :: r, M, acc, u, h => by
    rw [Lib.parseUintM] at h
    by_cases hd : 48 ≤ d.toNat ∧ d.toNat ≤ 57
    · rw [if_pos hd] at h
      by_cases h1 : 1844674407370955162 ≤ acc
      · rw [if_pos h1] at h; cases h
      · rw [if_neg h1] at h
        by_cases h2 : M < acc * 10 + (d.toNat - 48)
        · rw [if_pos h2] at h; cases h
        · rw [if_neg h2] at h
          intro c hc
          rcases List.mem_cons.1 hc with rfl | hc
          · exact hd
          · exact parse_ok r M _ u h c hc
    · rw [if_neg hd] at h; cases h

theorem take_all (l : List UInt8) (h : ∀ c ∈ l, isDig c) : l.takeWhile digB = l := by
  induction l with
  | nil => rfl
  | cons a r ih =>
    rw [List.takeWhile_cons, if_pos ((digB_iff a).2 (h a (by simp))), ih (fun c hc => h c (by simp [hc]))]

/-- The whole text is a number's. -/
def whole (s : List UInt8) : Prop := s ≠ [] ∧ leadN s = s.length
theorem whole_form {s : List UInt8} (h : whole s) : digs s ≠ [] ∧ s = sgn s ++ digs s := by
  have h0 : digs s ≠ [] := by
    intro e
    have := h.2
    unfold leadN at this
    rw [if_pos e] at this
    exact h.1 (List.length_eq_zero_iff.1 this.symm)
  refine ⟨h0, ?_⟩
  have := h.2
  unfold leadN at this
  rw [if_neg h0] at this
  have hr := digs_rest s
  have hl := congrArg List.length hr
  simp only [List.length_append] at hl
  have hz : Lib.trimLeftS (uns s) digitL = [] := List.length_eq_zero_iff.1 (by omega)
  rw [hz, List.append_nil] at hr
  exact hr.symm
theorem int_whole {s : List UInt8} (h : whole s) : intL s = num3 (sgn s) (digs s) := by
  obtain ⟨h0, he⟩ := whole_form h
  conv => lhs; rw [he]
  rw [intOf_digits _ _ (sgn_cases s) (digs_dig s) h0, num3_value _ _ (digs_dig s) h0]
theorem int_not {s : List UInt8} (h : ¬ whole s) : intL s = none := by
  cases hi : intL s with
  | none => rfl
  | some v =>
    exfalso
    apply h
    unfold intL at hi
    cases hp : Lib.parseIntB 64 s with
    | «syntax» => rw [hp] at hi; cases hi
    | range => rw [hp] at hi; cases hi
    | ok u =>
      cases s with
      | nil => simp [Lib.parseIntB] at hp
      | cons c r =>
        have hu : uns (c :: r) = if c.toNat = 43 ∨ c.toNat = 45 then r else c :: r := by
          unfold uns
          rw [sgn_cons]
          by_cases hc : c = 43 ∨ c = 45
          · rw [if_pos hc, if_pos (by rcases hc with rfl | rfl; exact .inl rfl; exact .inr rfl)]; rfl
          · rw [if_neg hc, if_neg (fun e => hc (e.elim (fun e => .inl (UInt8.toNat_inj.1 e)) (fun e => .inr (UInt8.toNat_inj.1 e))))]; rfl
        unfold Lib.parseIntB at hp
        simp only at hp
        rw [← hu] at hp
        cases hq : Lib.parseUintB 64 (uns (c :: r)) with
        | «syntax» => rw [hq] at hp; cases hp
        | range => rw [hq] at hp; cases hp
        | ok q =>
          unfold Lib.parseUintB at hq
          by_cases he : uns (c :: r) = []
          · rw [if_pos he] at hq; cases hq
          · rw [if_neg he] at hq
            have hd := parse_ok _ _ _ _ hq
            have hdd : digs (c :: r) = uns (c :: r) := take_all _ hd
            refine ⟨by simp, ?_⟩
            unfold leadN
            rw [hdd, if_neg he, ← List.length_append, sgn_uns]
end Go.Proofs.YtoekdeoekcmpgaaGreatDoor
