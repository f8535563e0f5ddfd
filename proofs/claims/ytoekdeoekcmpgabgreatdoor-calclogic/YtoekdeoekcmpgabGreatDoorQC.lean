/- Plain: a number's digits are that number. Of no program. -/
import Derived.Test.YtoekdeoekcmpgabGreatDoorQA
namespace Go.Proofs.YtoekdeoekcmpgabGreatDoor
open Go

theorem itoa_chars (n : Int) : ∃ sg ds, Lib.itoa n = sg ++ ds ∧ (sg = [] ∨ sg = [45]) ∧ ds ≠ [] ∧ ∀ c ∈ ds, isDig c := by
  unfold Lib.itoa
  by_cases hn : n < 0
  · rw [if_pos hn]
    obtain ⟨c, r, he, _⟩ := dec_first n.natAbs (by omega)
    exact ⟨[45], Lib.decDigits n.natAbs, rfl, .inr rfl, by rw [he]; simp, (dec_spell n.natAbs).1⟩
  · rw [if_neg hn]
    obtain ⟨c, r, he, _, _⟩ := dec_head n.toNat
    exact ⟨[], Lib.decDigits n.toNat, rfl, .inl rfl, by rw [he]; simp, (dec_spell n.toNat).1⟩

theorem no_blank (l : List UInt8) (h : ∀ c ∈ l, blankL.contains c = false) : Lib.trimLeftS l blankL = l ∧ Lib.trimRightS l blankL = l := by
  have key : ∀ m : List UInt8, (∀ c ∈ m, blankL.contains c = false) → m.dropWhile (blankL.contains ·) = m := by
    intro m hm
    cases m with
    | nil => rfl
    | cons a r => rw [List.dropWhile_cons, if_neg (by rw [hm a (by simp)]; simp)]
  refine ⟨key l h, ?_⟩
  unfold Lib.trimRightS
  rw [key l.reverse (fun c hc => h c (by simpa using hc)), List.reverse_reverse]

theorem dig_blank_fin : ∀ c : Fin 256, (48 ≤ c.val ∧ c.val ≤ 57) ∨ c.val = 45 → blankL.contains (UInt8.ofNat c.val) = false := by decide +kernel
theorem dig_blank {c : UInt8} (h : isDig c ∨ c = 45) : blankL.contains c = false := by
  have := dig_blank_fin ⟨c.toNat, UInt8.toNat_lt c⟩ (by
    rcases h with h | h
    · exact .inl h
    · right; rw [h]; rfl)
  simpa using this

theorem takeW_all (l : List UInt8) (h : ∀ c ∈ l, isDig c) : l.takeWhile digB = l := by
  induction l with
  | nil => rfl
  | cons a r ih => rw [List.takeWhile_cons, if_pos ((digB_iff a).2 (h a (by simp))), ih (fun c hc => h c (by simp [hc]))]

theorem itoa_first (n : Int) : firstN (Lib.itoa n) = Lib.itoa n := by
  obtain ⟨sg, ds, he, hs, hne, hd⟩ := itoa_chars n
  have hsg : sgn (sg ++ ds) = sg ∧ uns (sg ++ ds) = ds := by
    rcases hs with rfl | rfl
    · cases ds with
      | nil => exact absurd rfl hne
      | cons c r =>
        have hc := hd c (by simp)
        have h1 : ¬ (c = 43 ∨ c = 45) := by
          rintro (rfl | rfl)
          · exact absurd hc (by unfold isDig; decide)
          · exact absurd hc (by unfold isDig; decide)
        have e : sgn ([] ++ c :: r) = [] := by rw [List.nil_append, sgn_cons, if_neg h1]
        exact ⟨e, by unfold uns; rw [e]; rfl⟩
    · exact ⟨rfl, rfl⟩
  have hdd : digs (sg ++ ds) = ds := by unfold digs; rw [hsg.2]; exact takeW_all ds hd
  rw [he]
  unfold firstN
  rw [hdd, if_neg hne, hsg.1]

theorem itoa_plain (n : Int) : Lib.trimLeftS (Lib.itoa n) blankL = Lib.itoa n ∧ Lib.trimRightS (Lib.itoa n) blankL = Lib.itoa n := by
  obtain ⟨sg, ds, he, hs, hne, hd⟩ := itoa_chars n
  refine no_blank _ (fun c hc => ?_)
  rw [he] at hc
  rcases List.mem_append.1 hc with hc | hc
  · rcases hs with rfl | rfl
    · simp at hc
    · exact dig_blank (.inr (by simpa using hc))
  · exact dig_blank (.inl (hd c hc))

theorem intL_itoa (n : Int) (h0 : -9223372036854775808 ≤ n) (h1 : n ≤ 9223372036854775807) : intL (Lib.itoa n) = some n := by
  unfold intL
  rw [parse_itoa n h0 h1]
theorem numT_itoa (n : Int) (h0 : -9223372036854775808 ≤ n) (h1 : n ≤ 9223372036854775807) : numT (Lib.itoa n) = some n := by
  unfold numT
  rw [(itoa_plain n).1, itoa_first, intL_itoa n h0 h1]
theorem trimS_itoa (n : Int) : Lib.trimS (Lib.itoa n) blankL = Lib.itoa n := by
  unfold Lib.trimS
  rw [(itoa_plain n).2, (itoa_plain n).1]
end Go.Proofs.YtoekdeoekcmpgabGreatDoor
