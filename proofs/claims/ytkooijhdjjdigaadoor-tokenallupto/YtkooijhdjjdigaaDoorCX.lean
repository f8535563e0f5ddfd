/- The program's own mayBe over any kind; how a token is written. -/
import Derived.Test.YtkooijhdjjdigaaDoorCT
import Derived.Test.YtkooijhdjjdigaaDoorCW
import Derived.Test.YtkooijhdjjdigaaDoorCI
import Derived.Test.YtkooijhdjjdigaaDoorKU
namespace Go.Proofs.YtkooijhdjjdigaaDoor
open Go.ChangeShapes Go.WideShapes Go.ChangeAt Go.RowKit Go.Shelf
set_option linter.unusedVariables false

theorem tok_bs (t : List UInt8) (ht : t ≠ []) : tok t = if siz (bgn t) t = 0 then none else some (siz (bgn t) t, bgn t) := by
  cases t with
  | nil => exact absurd rfl ht
  | cons c r => exact tok_siz c r
theorem wrt_sz (k : Nat) (hk : k = 1 ∨ k = 2 ∨ k = 6) (t : List UInt8) : (decide (t.length ≠ 0) && decide (siz k t = t.length)) = (wrt (k : Int) t).isSome := by
  have h3 : ¬ (k : Int) = 3 := by omega
  have h4 : ¬ (k : Int) = 4 := by omega
  have h5 : ¬ (k : Int) = 5 := by omega
  unfold wrt bare
  rw [if_neg h3, if_neg h4, if_neg h5, Int.toNat_natCast]
  cases t with
  | nil => simp [tok]
  | cons c r =>
    rw [tok_siz]
    have h0 : (c :: r).length ≠ 0 := by simp
    rw [decide_eq_true h0, Bool.true_and]
    by_cases hs : siz k (c :: r) = (c :: r).length
    · have hb : bgn (c :: r) = k := by
        rcases hk with rfl | rfl | rfl
        · have hl : letB c = true := by
            cases hl : letB c with
            | true => rfl
            | false => simp [siz, hl] at hs
          have ha : rn (fun c => letB c || digB c) (c :: r) = (c :: r).length := by simpa [siz, hl] using hs
          have n39 : c.toNat ≠ 39 := by intro h; simp [letB, h] at hl
          have n63 : c.toNat ≠ 63 := by intro h; simp [letB, h] at hl
          have nx : ¬ ((lowB c).toNat = 120 ∧ r.head?.map UInt8.toNat = some 39) := by
            rintro ⟨-, h⟩
            cases r with
            | nil => simp at h
            | cons d r =>
              have hd : d.toNat = 39 := by simpa using h
              have hdl : (letB d || digB d) = false := by simp [letB, digB, hd]
              rw [rn_cons, if_pos (by simp [hl]), rn_cons, if_neg (by simp [hdl])] at ha
              simp at ha
          show (if c.toNat = 39 then 3 else if c.toNat = 63 then 5 else if (lowB c).toNat = 120 ∧ r.head?.map UInt8.toNat = some 39 then 4 else if letB c = true then 1 else if digB c = true then 2 else 6) = 1
          rw [if_neg n39, if_neg n63, if_neg nx, if_pos hl]
        · have hd : digB c = true := by
            cases hd : digB c with
            | true => rfl
            | false => simp [siz, dgs_cons, hd] at hs
          have hn : 48 ≤ c.toNat ∧ c.toNat ≤ 57 := by simpa [digB] using hd
          have hl : letB c = false := by simp [letB]; omega
          have nx : ¬ (lowB c).toNat = 120 := by rw [low_x]; omega
          show (if c.toNat = 39 then 3 else if c.toNat = 63 then 5 else if (lowB c).toNat = 120 ∧ r.head?.map UInt8.toNat = some 39 then 4 else if letB c = true then 1 else if digB c = true then 2 else 6) = 2
          rw [if_neg (by omega), if_neg (by omega), if_neg (fun h => nx h.1), if_neg (by simp [hl]), if_pos hd]
        · have hcs : (r.head?.map (paiB c)).getD false = true ∨ sinB c = true := by
            cases h1 : (r.head?.map (paiB c)).getD false with
            | true => exact .inl rfl
            | false =>
              cases h2 : sinB c with
              | true => exact .inr rfl
              | false => simp [siz, h1, h2] at hs
          have hq : c.toNat = 124 ∨ c.toNat = 61 ∨ c.toNat = 60 ∨ c.toNat = 33 ∨ c.toNat = 62 ∨ sinB c = true := by
            rcases hcs with h | h
            · cases r with
              | nil => simp at h
              | cons d r => simp [paiB] at h; omega
            · exact .inr (.inr (.inr (.inr (.inr h))))
          have hq2 : c.toNat < 48 ∧ c.toNat ≠ 39 ∨ c.toNat = 124 ∨ 58 ≤ c.toNat ∧ c.toNat ≤ 62 := by
            rcases hq with h | h | h | h | h | h
            · omega
            · omega
            · omega
            · omega
            · omega
            · rw [sinB_of] at h; simp at h; omega
          have hl : letB c = false := by simp [letB]; omega
          have hd : digB c = false := by simp [digB]; omega
          have nx : ¬ (lowB c).toNat = 120 := by rw [low_x]; omega
          show (if c.toNat = 39 then 3 else if c.toNat = 63 then 5 else if (lowB c).toNat = 120 ∧ r.head?.map UInt8.toNat = some 39 then 4 else if letB c = true then 1 else if digB c = true then 2 else 6) = 6
          rw [if_neg (by omega), if_neg (by omega), if_neg (fun h => nx h.1), if_neg (by simp [hl]), if_neg (by simp [hd])]
      rw [hb, hs, if_neg h0]
      simp
    · rw [decide_eq_false hs]
      split
      · simp
      · simp
        intro h1 h2
        exact absurd (by rw [← h2]; exact h1) hs
theorem wrt_par (t : List UInt8) : decide (dgs t = t.length) = (wrt 5 t).isSome := by
  have hb : bgn (63 :: t) = 5 := by simp [bgn]
  have hs : siz 5 (63 :: t) = 1 + dgs t := by simp [siz]
  have ht : tok (63 :: t) = some (1 + dgs t, 5) := by rw [tok_siz, hb, hs, if_neg (by omega)]
  have e : wrt 5 t = if (0 : Int) ≤ 5 ∧ tok (63 :: t) = some ((63 :: t).length, (5 : Int).toNat) then some (63 :: t) else none := rfl
  rw [e, ht]
  by_cases h : dgs t = t.length
  · rw [decide_eq_true h, if_pos ⟨by decide, by rw [h, List.length_cons, Nat.add_comm]; rfl⟩]
    rfl
  · rw [decide_eq_false h, if_neg fun hh => h ?_]
    · rfl
    · have := hh.2
      simp only [Option.some.injEq, Prod.mk.injEq, List.length_cons] at this
      omega
theorem wrt_not (k : Int) (hk : k < 1 ∨ 6 < k) (t : List UInt8) : wrt k t = none := by
  unfold wrt
  rw [if_neg (by omega), if_neg (by omega)]
  refine if_neg fun h => ?_
  obtain ⟨h0, h1⟩ := h
  cases hb : bare k t with
  | nil => rw [hb] at h1; simp [tok] at h1
  | cons c r =>
    rw [hb] at h1
    have := tok_kind h1
    omega
/-- How a token's text is written, where it may be. -/
def wrP (k : Int) (t : List UInt8) : List UInt8 := if k = 3 then 39 :: (esc t ++ [39]) else if k = 4 then 120 :: 39 :: (hexs t ++ [39]) else bare k t
theorem wrP_of {k : Int} {t x : List UInt8} (h : wrt k t = some x) : wrP k t = x := by
  unfold wrt at h
  unfold wrP
  split at h
  · rename_i h3; rw [if_pos h3]; exact Option.some.inj h
  · rename_i h3
    rw [if_neg h3]
    split at h
    · rename_i h4; rw [if_pos h4]; exact Option.some.inj h
    · rename_i h4
      rw [if_neg h4]
      split at h
      · exact Option.some.inj h
      · cases h
theorem app_bytes (a b : List UInt8) : (⟨a.toArray⟩ : ByteArray) ++ ⟨b.toArray⟩ = ⟨(a ++ b).toArray⟩ := by
  refine ba_eq ?_
  rw [show ((⟨a.toArray⟩ : ByteArray) ++ ⟨b.toArray⟩).data = (a.toArray ++ b.toArray) from ByteArray.data_append]
  simp
end Go.Proofs.YtkooijhdjjdigaaDoor
