/- The document's Rank, Texts, Cmp. -/
import Derived.Test.YtfjmoiooonialaaDoorRP
import Derived.Test.YtfjmoiooonialaaDoorFO
import Derived.Test.YtfjmoiooonialaaDoorVA
import Derived.Laws.Cover1
namespace Go.Proofs.YtfjmoiooonialaaDoor
open Go.ChangeShapes Go.WideShapes Go.ChangeAt Go.RowKit
set_option linter.unusedVariables false

theorem hide3 {p : Prop} (h : p) : Hid p := h
set_option maxHeartbeats 1000000 in
theorem rank_walk (k : Int) (hk : k = 0 ∨ k = 1 ∨ k = 2 ∨ k = 3) (w : World) : Calls Tryd.prog 32 #[.int .i64 k] w fun e w' => e = .returned (.int .i64 k) ∧ w = w' := by
  rcases hk with rfl | rfl | rfl | rfl
  all_goals
    go_enter Tryd.func32, Tryd.ntmps32
    go_wp2
    go_ret
    exact ⟨rfl, rfl⟩

theorem less_cmp : ∀ a b : List UInt8, cmpL a b = if Op.bytesLess a b = true then -1 else if Op.bytesLess b a = true then 1 else 0
  | [], [] => rfl
  | [], _ :: _ => rfl
  | _ :: _, [] => rfl
  | x :: xs, y :: ys => by
    have ih := less_cmp xs ys
    simp only [cmpL, Op.bytesLess]
    by_cases h1 : x.toNat < y.toNat
    · have : x < y := h1
      simp [h1, this]
    · have n1 : ¬ x < y := h1
      by_cases h2 : y.toNat < x.toNat
      · have : y < x := h2
        have ne : ¬ x = y := fun e => by rw [e] at h2; omega
        simp [h1, h2, n1, this, ne]
      · have n2 : ¬ y < x := h2
        have e : x = y := UInt8.toNat_inj.1 (by omega)
        subst e
        simp [n1, ih]

set_option maxHeartbeats 1000000 in
theorem texts_walk (a b : ByteArray) (w : World) : Calls Tryd.prog 33 #[.string a, .string b] w fun e w' => e = .returned (.int .i64 (cmpL a.data.toList b.data.toList)) ∧ w = w' := by
  have hc := less_cmp a.data.toList b.data.toList
  rw [← ByteArray.toList_eq, ← ByteArray.toList_eq] at hc ⊢
  by_cases h1 : Op.bytesLess a.toList b.toList = true
  · rw [if_pos h1] at hc
    rw [hc]
    clear hc
    go_enter Tryd.func33, Tryd.ntmps33
    go_wp2
    go_ret
    exact ⟨rfl, rfl⟩
  · rw [if_neg h1] at hc
    have e1 : Op.bytesLess a.toList b.toList = false := by simpa using h1
    by_cases h2 : a.toList = b.toList
    · have e2 : (a.toList == b.toList) = true := by simpa using h2
      have hz : cmpL a.toList b.toList = 0 := by rw [h2]; exact cmpL_self _
      rw [hz]
      clear hc hz h1 h2
      go_enter Tryd.func33, Tryd.ntmps33
      go_wp2
      go_ret
      exact ⟨rfl, rfl⟩
    · have e2 : (a.toList == b.toList) = false := by simpa using h2
      have hz : cmpL a.toList b.toList = 1 := by
        rw [hc]
        by_cases h3 : Op.bytesLess b.toList a.toList = true
        · rw [if_pos h3]
        · rw [if_neg h3] at hc; exact absurd (cmpL_zero _ _ hc) h2
      rw [hz]
      clear hc hz h1 h2
      go_enter Tryd.func33, Tryd.ntmps33
      go_wp2
      go_ret
      exact ⟨rfl, rfl⟩
end Go.Proofs.YtfjmoiooonialaaDoor
