/- At most one writes, and one that holds everything is alone: plain facts of tables. -/
import Derived.Test.YthenbbpfbkmhnaaG
import Derived.Test.YthenbbpfbkmhnaaF
namespace Go.Proofs.Ythenbbpfbkmhnaa
open Go.ChangeShapes Go.WideShapes Go.ChangeAt Go.RowKit
set_option linter.unusedVariables false

structure Good (L : List Int) : Prop where
  len : L.length = 8
  val : ∀ i, i < 8 → 0 ≤ gt L i ∧ gt L i ≤ 3
  one : ∀ i j, i < 8 → j < 8 → 2 ≤ gt L i → 2 ≤ gt L j → i = j
  alone : ∀ i j, i < 8 → j < 8 → gt L i = 3 → i ≠ j → gt L j = 0
theorem Good.start : Good h0 := by
  refine ⟨rfl, fun i _ => ?_, fun i j _ _ h => ?_, fun i j _ _ h => ?_⟩
  · rw [gt_h0]; omega
  · rw [gt_h0] at h; omega
  · rw [gt_h0] at h; omega
theorem Good.take {L : List Int} (h : Good L) (c l : Int) : Good (tkH L c l) := by
  unfold tkH
  split
  · next hc =>
    obtain ⟨ha, hlt, hf⟩ := hc
    obtain ⟨⟨hc0, hc8⟩, hl0, hl3⟩ := askE_in ha
    obtain ⟨k, rfl, hk⟩ : ∃ k : Nat, c = (k : Int) ∧ k < 8 := ⟨c.toNat, by omega, by omega⟩
    have hf' := (frB_iff (h := L) (c := (k : Int)) hl0 hl3).1 hf
    have e : ((k : Int)).toNat = k := by omega
    rw [e] at hlt ⊢
    have hg : ∀ j, gt (L.set k l) j = if j = k then l else gt L j := gt_set (by rw [h.len]; exact hk) l
    have hv := h.val k hk
    have bars : ∀ i, i < 8 → i ≠ k → ¬ (gt L i = 3 ∧ 1 ≤ l) ∧ ¬ (gt L i = 2 ∧ 2 ≤ l) ∧ ¬ (gt L i = 1 ∧ l = 3) := fun i hi hne => by
      have := hf' i hi
      have hne' : (i : Int) ≠ (k : Int) := by omega
      exact ⟨fun x => this ⟨hne', .inl x⟩, fun x => this ⟨hne', .inr (.inl x)⟩, fun x => this ⟨hne', .inr (.inr x)⟩⟩
    refine ⟨by rw [List.length_set]; exact h.len, fun i hi => ?_, fun i j hi hj h1 h2 => ?_, fun i j hi hj h1 hne => ?_⟩
    · rw [hg]; split
      · omega
      · exact h.val i hi
    · rw [hg] at h1 h2
      by_cases e1 : i = k
      · by_cases e2 : j = k
        · omega
        · rw [if_pos e1] at h1
          rw [if_neg e2] at h2
          have := bars j hj e2
          have := h.val j hj
          omega
      · by_cases e2 : j = k
        · rw [if_neg e1] at h1
          rw [if_pos e2] at h2
          have := bars i hi e1
          have := h.val i hi
          omega
        · rw [if_neg e1] at h1
          rw [if_neg e2] at h2
          exact h.one i j hi hj h1 h2
    · rw [hg] at h1 ⊢
      by_cases e1 : i = k
      · rw [if_pos e1] at h1
        have e2 : j ≠ k := by omega
        rw [if_neg e2]
        have := bars j hj e2
        have := h.val j hj
        omega
      · rw [if_neg e1] at h1
        have := bars i hi e1
        omega
  · exact h
theorem Good.drop {L : List Int} (h : Good L) (c l : Int) : Good (drH L c l) := by
  unfold drH
  split
  · next ha =>
    obtain ⟨⟨hc0, hc8⟩, hl0, hl3⟩ := askE_in ha
    obtain ⟨k, rfl, hk⟩ : ∃ k : Nat, c = (k : Int) ∧ k < 8 := ⟨c.toNat, by omega, by omega⟩
    have e : ((k : Int)).toNat = k := by omega
    rw [e]
    have hg : ∀ j, gt (L.set k (min (gt L k) l)) j = if j = k then min (gt L k) l else gt L j := gt_set (by rw [h.len]; exact hk) _
    have hv := h.val k hk
    have hle : ∀ j, j < 8 → gt (L.set k (min (gt L k) l)) j ≤ gt L j := fun j hj => by
      rw [hg]; split
      · next e => subst e; omega
      · omega
    have hge : ∀ j, j < 8 → 0 ≤ gt (L.set k (min (gt L k) l)) j := fun j hj => by
      rw [hg]; split
      · omega
      · exact (h.val j hj).1
    refine ⟨by rw [List.length_set]; exact h.len, fun i hi => ⟨hge i hi, Int.le_trans (hle i hi) (h.val i hi).2⟩, fun i j hi hj h1 h2 => h.one i j hi hj (Int.le_trans h1 (hle i hi)) (Int.le_trans h2 (hle j hj)), fun i j hi hj h1 hne => ?_⟩
    have h3 := hle i hi
    have h4 := (h.val i hi).2
    have := h.alone i j hi hj (by omega) hne
    have := hle j hj
    have := hge j hj
    omega
  · exact h
theorem filt_one {p : Nat → Bool} : ∀ n, (∀ i j, i < n → j < n → p i = true → p j = true → i = j) → ((List.range n).filter p).length ≤ 1
  | 0, _ => by simp
  | n + 1, h => by
    rw [List.range_succ, List.filter_append, List.length_append]
    have ih := filt_one n (fun i j hi hj => h i j (by omega) (by omega))
    cases e : p n
    · simp [e]; exact ih
    · have : (List.range n).filter p = [] := by
        rw [List.filter_eq_nil_iff]
        intro a ha hp
        have := h a n (by have := List.mem_range.1 ha; omega) (by omega) hp e
        have := List.mem_range.1 ha
        omega
      rw [this]; simp [e]
theorem hol_len (L : List Int) (l : Int) (n : Nat) : (hol L l n).length = ((List.range n).filter fun i => decide (l ≤ gt L i)).length := by unfold hol; rw [List.length_map]
theorem Good.two {L : List Int} (h : Good L) : (hol L 2 8).length ≤ 1 := by
  rw [hol_len]
  exact filt_one 8 (fun i j hi hj h1 h2 => h.one i j hi hj (of_decide_eq_true h1) (of_decide_eq_true h2))
theorem Good.three {L : List Int} (h : Good L) (h3 : (hol L 3 8).length = 1) : (hol L 1 8).length = 1 := by
  rw [hol_len] at h3 ⊢
  obtain ⟨i, hi⟩ := List.exists_mem_of_length_pos (l := (List.range 8).filter fun i => decide (3 ≤ gt L i)) (by omega)
  obtain ⟨hm, hp⟩ := List.mem_filter.1 hi
  have hi8 := List.mem_range.1 hm
  have hg := of_decide_eq_true hp
  have hv := (h.val i hi8).2
  have h1 : ((List.range 8).filter fun i => decide (1 ≤ gt L i)).length ≤ 1 := filt_one 8 (fun a b ha hb h1 h2 => by
    have h1 := of_decide_eq_true h1
    have h2 := of_decide_eq_true h2
    by_cases ea : i = a
    · by_cases eb : i = b
      · omega
      · have := h.alone i b hi8 hb (by omega) eb
        omega
    · have := h.alone i a hi8 ha (by omega) ea
      omega)
  have h2 : 0 < ((List.range 8).filter fun i => decide (1 ≤ gt L i)).length := List.length_pos_of_mem (List.mem_filter.2 ⟨hm, decide_eq_true (by omega)⟩)
  omega
theorem Good.zero {L : List Int} (h : Good L) : (hol L 0 8).length = 8 := by
  rw [hol_len, List.filter_eq_self.2 (fun a ha => decide_eq_true (h.val a (List.mem_range.1 ha)).1)]
  simp
/-- What is refused changes nothing; nothing changes but for the one that asked. -/
theorem tk_same {L : List Int} {c l : Int} (h : tkE L c l ≠ 0) : tkH L c l = L := by
  unfold tkH
  rw [if_neg]
  rintro ⟨h1, h2, h3⟩
  exact h (by unfold tkE; rw [if_pos h1, if_neg h2, if_pos h3])
theorem dr_same {L : List Int} {c l : Int} (h : askE c l ≠ 0) : drH L c l = L := by unfold drH; rw [if_neg h]
theorem tk_other {L : List Int} {c l : Int} (h8 : L.length = 8) {o : Nat} (h : (o : Int) ≠ c) : gt (tkH L c l) o = gt L o := by
  unfold tkH
  split
  · next hc =>
    have := askE_in hc.1
    rw [gt_set (by omega), if_neg (by omega)]
  · rfl
theorem dr_other {L : List Int} {c l : Int} (h8 : L.length = 8) {o : Nat} (h : (o : Int) ≠ c) : gt (drH L c l) o = gt L o := by
  unfold drH
  split
  · next hc =>
    have := askE_in hc
    rw [gt_set (by omega), if_neg (by omega)]
  · rfl
/-- Behind dropping all. -/
theorem tk_free {L : List Int} (c l : Int) (hz : ∀ i, i < 8 → gt L i = 0) : tkE L c l = askE c l := by
  unfold tkE
  by_cases ha : askE c l = 0
  · rw [if_pos ha]
    obtain ⟨hc, hl0, hl3⟩ := askE_in ha
    have : frB L c l = true := (frB_iff hl0 hl3).2 (fun i hi hb => by
      have := hz i hi
      rcases hb.2 with h | h | h <;> omega)
    rw [this]
    split <;> simp [ha]
  · rw [if_neg ha]
    unfold askE at ha ⊢
    split <;> simp_all
end Go.Proofs.Ythenbbpfbkmhnaa
