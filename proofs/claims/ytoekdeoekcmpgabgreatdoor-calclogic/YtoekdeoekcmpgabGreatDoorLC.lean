/- CalcLogic, with what each operator makes of any two values. -/
import Derived.Test.YtoekdeoekcmpgabGreatDoorLB
import Derived.Test.YtoekdeoekcmpgabGreatDoorIA
namespace Go.Proofs.YtoekdeoekcmpgabGreatDoor
open Go.ChangeShapes Go.WideShapes Go.ChangeAt Go.RowKit
set_option linter.unusedVariables false

theorem cmpA_neg (k n : Int) (t : ByteArray) (k2 n2 : Int) (t2 : ByteArray) (c : Int) : cmpA k2 n2 t2 k n t c = -cmpA k n t k2 n2 t2 c := by
  unfold cmpA
  by_cases h : mayB k n t = true ∧ mayB k2 n2 t2 = true
  · rw [if_pos h, if_pos ⟨h.2, h.1⟩]
    exact cmpV_neg _ _ _ _ _ _ _
  · rw [if_neg h, if_neg (fun g => h ⟨g.2, g.1⟩)]
    rfl

/-- In of one value: whether it is equal. -/
theorem in_one (c k n : Int) (t : ByteArray) (k2 n2 : Int) (t2 : ByteArray) (hm1 : mayB k n t = true) (hm2 : mayB k2 n2 t2 = true) (X : Option Bool) (hX : X = nulT k k2 (some (decide (cmpA k n t k2 n2 t2 c = 0)))) (w : World) (g : Nat) (hE : Env w) (l0 : w.cell? ⟨g, 0, none⟩ = some (.int .i64 k2)) (l1 : w.cell? ⟨g, 1, none⟩ = some (.int .i64 n2)) (l2 : w.cell? ⟨g, 2, none⟩ = some (.string t2)) :
    Calls Tryz.prog 9 #[.agg #[.int .i64 k, .int .i64 n, .string t], .slice (some ⟨g, 0, none⟩) 1 1, .int .i64 c] w fun e w' => e = .returned (.agg #[.int .i64 (vk X), .int .i64 (vn X), .string ⟨#[]⟩]) ∧ Below w.heap.size w w' := by
  refine in1_walk c (fun W p => ∃ v, W.cell? ⟨p, 0, none⟩ = some v ∧ StFn W 82 c v) k n t k2 n2 t2 g hm1 hm2 (vk X) (vn X) ⟨#[]⟩ (vk X) (vn X) ⟨#[]⟩ (fun V => Calls.mono (ofTwo_eq c V) (fun e w' ⟨p, v, h1, h2, h3, h4⟩ => ⟨p, h1, ⟨v, h2, h3⟩, h4⟩)) (fun V W p ⟨v, h1, pf, pc, hv, h2, h3⟩ hb => ⟨v, cell_later hb h1, pf, pc, hv, cell_later hb h2, cell_later hb h3⟩) (fun V p hV ⟨v, h1, pf, pc, hv, h2, h3⟩ => ?_) (fun V p hV h => ?_) w hE l0 l1 l2
  · subst hv
    unfold nulT at hX
    by_cases hk : k = 0
    · subst hk
      rw [if_pos (.inl rfl)] at hX
      subst hX
      exact nullA_walk k2 n2 t2 n t p V
    by_cases hk2 : k2 = 0
    · subst hk2
      rw [if_pos (.inr rfl)] at hX
      subst hX
      exact nullB_walk k n t n2 t2 p V
    rw [if_neg (by omega)] at hX
    subst hX
    refine un_stand k n t k2 n2 t2 (by simpa using hk) (by simpa using hk2) _ _ _ p pf pc V h1 (fun U hU => ?_)
    have h := stand_eq k n t k2 n2 t2 c pf pc U (cell_later hU h2) (cell_later hU h3)
    rw [truthV_tv] at h
    exact h
  · have := settled_walk true 1 0 ⟨#[]⟩ (vk X) (vn X) ⟨#[]⟩ _ _ _ _ (truthB_tr _) (truthB_tr _) p V hV h
    rw [setB_tv, tr_tv, show trB (numO 1 0 (⟨#[]⟩ : ByteArray).data.toList) = some false by rw [num_of_int]; rfl, set_false] at this
    exact this

theorem logic_walk (k n : Int) (t : ByteArray) (k2 n2 : Int) (t2 : ByteArray) (c : Int) (h0 : -9223372036854775808 ≤ n) (h1 : n ≤ 9223372036854775807) (g0 : -9223372036854775808 ≤ n2) (g1 : n2 ≤ 9223372036854775807) (_ : -9223372036854775808 ≤ c) (_ : c ≤ 9223372036854775807) (w : World) (hE : Env w) :
    Calls Tryz.prog 3 #[val k n t, val k2 n2 t2, .int .i64 c] w fun e w' => e = .returned (.bool true) ∧ Below w.heap.size w w' := by
  cases hm1 : mayB k n t with
  | false => exact logic_bad1 c k n t k2 n2 t2 (fun V => by have := rmay_walk k n t V; rw [hm1] at this; exact this) w hE
  | true =>
  cases hm2 : mayB k2 n2 t2 with
  | false => exact logic_bad2 c k n t k2 n2 t2 (fun V => by have := rmay_walk k n t V; rw [hm1] at this; exact this) (fun V => by have := rmay_walk k2 n2 t2 V; rw [hm2] at this; exact this) w hE
  | true =>
  obtain ⟨A, hA⟩ : ∃ A, trB (numO k n t.data.toList) = A := ⟨_, rfl⟩
  obtain ⟨B, hB⟩ : ∃ B, trB (numO k2 n2 t2.data.toList) = B := ⟨_, rfl⟩
  obtain ⟨m, hm⟩ : ∃ m, cmpA k n t k2 n2 t2 c = m := ⟨_, rfl⟩
  have NA := not_of k n t h0 h1 hm1
  have NB := not_of k2 n2 t2 g0 g1 hm2
  have AND := two_and c k n t k2 n2 t2 hm1 hm2
  have OR := two_or c k n t k2 n2 t2 hm1 hm2
  have AND2 := two_and c k2 n2 t2 k n t hm2 hm1
  have OR2 := two_or c k2 n2 t2 k n t hm2 hm1
  rw [hA] at NA
  rw [hB] at NB
  rw [hA, hB] at AND OR
  rw [hA, hB, set_comm] at AND2 OR2
  have NU := not_tv (notB A)
  have NS := not_tv (notB (notB A))
  rw [not3] at NS
  have NP := not_tv (setT false A B)
  have OZ := or_tv c (notB A) (notB B)
  rw [morgan] at OZ
  have EQ := two_eq c k n t k2 n2 t2 hm1 hm2
  have NE := two_ne c k n t k2 n2 t2 hm1 hm2
  have LT := two_lt c k n t k2 n2 t2 hm1 hm2
  have GE := two_ge c k n t k2 n2 t2 hm1 hm2
  have LE := two_le c k n t k2 n2 t2 hm1 hm2
  have GT := two_gt c k n t k2 n2 t2 hm1 hm2
  have IS := two_is c k n t k2 n2 t2 hm1 hm2
  have ISN := two_isnot c k n t k2 n2 t2 hm1 hm2
  have GT2 := two_gt c k2 n2 t2 k n t hm2 hm1
  have IN := in_one c k n t k2 n2 t2 hm1 hm2 _ rfl
  rw [cmpA_neg k n t k2 n2 t2 c, nul_comm] at GT2
  rw [hm] at EQ NE LT GE LE GT IS ISN GT2 IN
  have e1 : decide (0 < -m) = decide (m < 0) := decide_eq_decide.2 (by omega)
  rw [e1] at GT2
  have NEQ := not_tv (nulT k k2 (some (decide (m = 0))))
  rw [nul_not k k2 (decide (m = 0)) (decide (m ≠ 0)) (by simp)] at NEQ
  have NLT := not_tv (nulT k k2 (some (decide (m < 0))))
  rw [nul_not k k2 (decide (m < 0)) (decide (0 ≤ m)) (by by_cases h : m < 0 <;> simp [h] <;> omega)] at NLT
  have NLE := not_tv (nulT k k2 (some (decide (m ≤ 0))))
  rw [nul_not k k2 (decide (m ≤ 0)) (decide (0 < m)) (by by_cases h : m ≤ 0 <;> simp [h] <;> omega)] at NLE
  have NIS := not_tv (some (decide (m = 0)))
  rw [show notB (some (decide (m = 0))) = some (decide (m ≠ 0)) by simp [notB]] at NIS
  exact logic_c c k n t k2 n2 t2 _ _ _ _ _ _ _ _ _ _ _ _ _ _ _ _ _ _ _ _ _ _ _ _ _ _ _ _ (fun V => by have := rmay_walk k n t V; rw [hm1] at this; exact this) (fun V => by have := rmay_walk k2 n2 t2 V; rw [hm2] at this; exact this) NA NU NS NB NP AND OR AND2 OR2 OZ EQ NE NEQ LT GE NLT LE GT NLE IS ISN NIS GT2 IN w hE
end Go.Proofs.YtoekdeoekcmpgabGreatDoor
