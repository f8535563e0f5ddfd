/- Plain: quotes written twice and read back; what stands within a text, a blob. Of no program. -/
import Derived.Test.YtkooijhdjjdigaaDoorKT
import Derived.Test.YtkooijhdjjdigaaDoorCH
import Derived.Lib.Replace
import Derived.Lib.ReplaceLaws
namespace Go.Proofs.YtkooijhdjjdigaaDoor
open Go

theorem rep_hit {old new s : List UInt8} (h1 : old ≠ []) (h : old.isPrefixOf s = true) :
    Lib.replaceK old new (Lib.count s old) s = new ++ Lib.replaceK old new (Lib.count (s.drop old.length) old) (s.drop old.length) := by
  have hi : Lib.index s old = ((0 : Nat) : Int) := by
    cases s with
    | nil => cases old with
      | nil => exact absurd rfl h1
      | cons a b => simp at h
    | cons b l => simp [Lib.index, h]
  rw [Lib.count_hit h1 hi, Nat.add_comm 1, Lib.replaceK_hit _ _ _ _ 0 hi]
  simp

theorem rep_miss {old new : List UInt8} {c : UInt8} {r : List UInt8} (h1 : old ≠ []) (h : old.isPrefixOf (c :: r) = false) :
    Lib.replaceK old new (Lib.count (c :: r) old) (c :: r) = c :: Lib.replaceK old new (Lib.count r old) r := by
  by_cases hm : Lib.index r old = -1
  · have hi : Lib.index (c :: r) old = -1 := by simp [Lib.index, h, hm]
    rw [Lib.count_miss hi, Lib.count_miss hm]
    rfl
  · have hge := Lib.index_ge r old
    obtain ⟨i, hi⟩ : ∃ i : Nat, Lib.index r old = i := ⟨(Lib.index r old).toNat, by omega⟩
    have hi2 : Lib.index (c :: r) old = ((i + 1 : Nat) : Int) := by
      have hne : ¬ ((i : Int) == -1) = true := fun e => by have := beq_iff_eq.1 e; omega
      simp only [Lib.index, h, hi, if_neg hne]
      simp
    rw [Lib.count_hit h1 hi2, Lib.count_hit h1 hi, Nat.add_comm 1, Nat.add_comm 1, Lib.replaceK_hit _ _ _ _ _ hi2, Lib.replaceK_hit _ _ _ _ _ hi]
    rw [show i + 1 + old.length = (i + old.length) + 1 by omega]
    simp

theorem rep_nil {old new : List UInt8} (h1 : old ≠ []) : Lib.replaceK old new (Lib.count [] old) [] = [] := by
  have hi : Lib.index [] old = -1 := by
    cases old with
    | nil => exact absurd rfl h1
    | cons a b => simp [Lib.index]
  rw [Lib.count_miss hi]; rfl

theorem replaceAll_eq {s old new : List UInt8} (h : old ≠ new) : Lib.replaceAll s old new = Lib.replaceK old new (Lib.count s old) s := by
  unfold Lib.replaceAll Lib.replace Lib.replaceNum
  rw [if_neg (by simpa using h), if_pos (Or.inl (by decide))]

theorem esc_eq (l : List UInt8) : Lib.replaceAll l [39] [39, 39] = esc l := by
  rw [replaceAll_eq (by decide)]
  induction l with
  | nil => exact rep_nil (by decide)
  | cons c r ih =>
    by_cases hc : c = 39
    · subst hc
      rw [rep_hit (by decide) (by simp)]
      simp [esc, ih]
    · rw [rep_miss (by decide) (by simp [List.isPrefixOf]; exact fun e => hc e.symm), ih, esc, if_neg hc]

theorem unq_rep : ∀ (l u : List UInt8), unq l = some u → Lib.replaceK [39, 39] [39] (Lib.count l [39, 39]) l = u
  | [], u, h => by rw [rep_nil (by decide)]; simpa [unq] using h
  | [c], u, h => by
    rw [unq] at h
    split at h
    · cases h
    · rename_i hc
      rw [rep_miss (by decide) (by simp [List.isPrefixOf]), rep_nil (by decide)]
      exact Option.some.inj h
  | c :: d :: r, u, h => by
    rw [unq] at h
    split at h
    · rename_i hc
      split at h
      · rename_i hd
        subst hc hd
        rw [rep_hit (by decide) (by simp [List.isPrefixOf])]
        cases hu : unq r with
        | none => rw [hu] at h; simp at h
        | some v =>
          rw [hu] at h
          have := unq_rep r v hu
          simp only [List.length_cons, List.length_nil, List.drop_succ_cons, List.drop_zero]
          rw [this]
          simpa using h
      · cases h
    · rename_i hc
      cases hu : unq (d :: r) with
      | none => rw [hu] at h; simp at h
      | some v =>
        rw [hu] at h
        rw [rep_miss (by decide) (by simp [List.isPrefixOf]; exact fun e => absurd e.symm hc), unq_rep (d :: r) v hu]
        simpa using h
theorem unesc_eq {l u : List UInt8} (h : unq l = some u) : Lib.replaceAll l [39, 39] [39] = u := by
  rw [replaceAll_eq (by decide)]
  exact unq_rep l u h
theorem quo_unq : ∀ (r : List UInt8) (n : Nat), quo r = some n → ∃ u, unq (r.take (n - 1)) = some u
  | [], n, h => by simp [quo] at h
  | [c], n, h => by
    rw [quo] at h
    split at h
    · obtain rfl := Option.some.inj h; exact ⟨[], rfl⟩
    · cases h
  | c :: d :: r, n, h => by
    by_cases hc : c.toNat = 39
    · by_cases hd : d.toNat = 39
      · rw [quo_two hc hd] at h
        cases hq : quo r with
        | none => rw [hq] at h; simp at h
        | some m =>
          rw [hq] at h
          obtain rfl : m + 2 = n := by simpa using h
          have hm := quo_le r m hq
          obtain ⟨u, hu⟩ := quo_unq r m hq
          have ec : c = 39 := UInt8.toNat_inj.1 hc
          have ed : d = 39 := UInt8.toNat_inj.1 hd
          refine ⟨39 :: u, ?_⟩
          rw [show m + 2 - 1 = (m - 1) + 1 + 1 by omega, List.take_succ_cons, List.take_succ_cons, ec, ed, unq_two, hu]
          rfl
      · rw [quo_end hc (by simpa using hd)] at h
        obtain rfl := Option.some.inj h
        exact ⟨[], rfl⟩
    · rw [quo_not hc] at h
      cases hq : quo (d :: r) with
      | none => rw [hq] at h; simp at h
      | some m =>
        rw [hq] at h
        obtain rfl : m + 1 = n := by simpa using h
        have hm := quo_le (d :: r) m hq
        obtain ⟨u, hu⟩ := quo_unq (d :: r) m hq
        refine ⟨c :: u, ?_⟩
        rw [show m + 1 - 1 = (m - 1) + 1 by omega, List.take_succ_cons, unq_cons (fun e => hc (by rw [e]; rfl)), hu]
        rfl
theorem take_rn (B : UInt8 → Bool) (l : List UInt8) : l.take (rn B l) = l.takeWhile B := by
  unfold rn
  exact (List.prefix_iff_eq_take.1 (List.takeWhile_prefix B)).symm
theorem blo_hex {l : List UInt8} {n : Nat} (h : blo false l = some n) : (∀ c ∈ l.take (n - 1), hexB c = true) ∧ (l.take (n - 1)).length % 2 = 0 := by
  rw [blo_rn] at h
  split at h
  · cases h
  · rename_i ho
    split at h
    · obtain rfl := Option.some.inj h
      rw [Nat.add_sub_cancel]
      refine ⟨?_, ?_⟩
      · rw [take_rn]
        intro c hc
        exact List.all_eq_true.1 (List.all_takeWhile (l := l) (p := hexB)) c hc
      · rw [List.length_take, Nat.min_eq_left (rn_le _ _)]
        simp at ho
        omega
    · cases h
end Go.Proofs.YtkooijhdjjdigaaDoor
