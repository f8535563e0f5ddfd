/- The document's Number, at every text. -/
import Derived.Test.YtoekdeoekcmpgaaGreatDoorRM
namespace Go.Proofs.YtoekdeoekcmpgaaGreatDoor
open Go.ChangeShapes Go.WideShapes Go.ChangeAt Go.RowKit
set_option linter.unusedVariables false

set_option maxHeartbeats 2000000 in
set_option maxRecDepth 10000 in
theorem number_walk (s : ByteArray) (hs : s.size ≤ 1000) (w : World) : Calls Tryz.prog 69 #[.string s] w fun e w' => e = .returned (numV (numR s.data.toList)) ∧ Below w.heap.size w w' := by
  have hl : s.data.toList.length = s.size := by simp
  by_cases h0 : s.size = 0
  · have hN : numR s.data.toList = none := by rw [List.eq_nil_of_length_eq_zero (hl.trans h0)]; rfl
    rw [hN]
    have e0 : s = ⟨#[]⟩ := by cases s with | mk d => simp [ByteArray.size] at h0; simp [h0]
    subst e0
    go_enter Tryz.func69, Tryz.ntmps69
    go_wp2
    go_ret2
    exact ⟨rfl, Below.refl _ _⟩
  have h1 : 1 ≤ s.size := by omega
  have hd0 := drop_next s 0 h1
  rw [List.drop_zero] at hd0
  obtain ⟨c, hc⟩ : ∃ c : UInt8, s[0]'h1 = c := ⟨_, rfl⟩
  rw [hc] at hd0
  have p1 : (0 : Int) < (s.size : Int) := by omega
  by_cases h45 : c = 45
  · by_cases h2 : 2 ≤ s.size
    · have hd1 := drop_next s 1 h2
      obtain ⟨d, hd⟩ : ∃ d : UInt8, s[1]'h2 = d := ⟨_, rfl⟩
      rw [hd] at hd1
      have ht : s.data.toList.tail = d :: s.data.toList.drop 2 := by rw [← List.drop_one]; exact hd1
      by_cases h48 : d = 48
      · have hN : numR s.data.toList = none := by unfold numR; rw [if_pos (by rw [hd0, h45]; rfl), ht]; simp [h48]
        rw [hN]
        have hb0 : ∀ (h : 0 < s.size), ((s[0]'h).toNat : Int) = 45 := fun h => by rw [hc, h45]; rfl
        have hb1 : ∀ (h : 1 < s.size), ((s[1]'h).toNat : Int) = 48 := fun h => by rw [hd, h48]; rfl
        have p2 : (1 : Int) < (s.size : Int) := by omega
        have hze2 : ((1 : Int) == (s.size : Int)) = false := by simp; omega
        clear hN hd0 hd1 ht hc hd
        go_enter Tryz.func69, Tryz.ntmps69
        go_wp2
        go_ret2
        exact ⟨rfl, Below.refl _ _⟩
      · have hN : numR s.data.toList = numLoop true 0 s.data.toList.tail := by unfold numR; rw [if_pos (by rw [hd0, h45]; rfl), ht]; simp only [if_neg h48]
        rw [hN]
        exact number_neg s hs h2 (by rw [hc, h45]; rfl) (fun e => h48 (UInt8.toNat_inj.1 (by rw [hd] at e; exact e))) w
    · have hs1 : s.size = 1 := by omega
      have ht : s.data.toList.drop 1 = [] := List.drop_of_length_le (by omega)
      have hN : numR s.data.toList = none := by unfold numR; rw [if_pos (by rw [hd0, h45]; rfl), ← List.drop_one, ht]
      rw [hN]
      have hb0 : ∀ (h : 0 < s.size), ((s[0]'h).toNat : Int) = 45 := fun h => by rw [hc, h45]; rfl
      have hze2 : ((1 : Int) == (s.size : Int)) = true := by simp; omega
      clear hN hd0 ht hc
      go_enter Tryz.func69, Tryz.ntmps69
      go_wp2
      go_ret2
      exact ⟨rfl, Below.refl _ _⟩
  · have n45 : c.toNat ≠ 45 := fun e => h45 (UInt8.toNat_inj.1 e)
    by_cases hz : c = 48 ∧ 1 < s.size
    · have hN : numR s.data.toList = none := by
        unfold numR
        rw [if_neg (by rw [hd0]; simpa using h45), hd0]
        simp only
        rw [if_pos ⟨hz.1, fun e => by have := congrArg List.length e; rw [List.length_drop, hl] at this; simp at this; omega⟩]
      rw [hN]
      have hb0 : ∀ (h : 0 < s.size), ((s[0]'h).toNat : Int) = 48 := fun h => by rw [hc, hz.1]; rfl
      have p2 : (1 : Int) < (s.size : Int) := by omega
      have hze2 : ((0 : Int) == (s.size : Int)) = false := by simp; omega
      clear hN hd0 hc n45 h45
      go_enter Tryz.func69, Tryz.ntmps69
      go_wp2
      go_ret2
      exact ⟨rfl, Below.refl _ _⟩
    · have hN : numR s.data.toList = numLoop false 0 s.data.toList := by
        unfold numR
        rw [if_neg (by rw [hd0]; simpa using h45), hd0]
        simp only
        rw [if_neg]
        rintro ⟨h1', h2'⟩
        refine hz ⟨h1', ?_⟩
        have : 0 < (s.data.toList.drop (0 + 1)).length := List.length_pos_iff.2 h2'
        rw [List.length_drop, hl] at this
        omega
      rw [hN]
      exact number_pos s hs h1 (by rw [hc]; exact n45) (fun ⟨e1, e2⟩ => hz ⟨UInt8.toNat_inj.1 (by rw [hc] at e1; exact e1), e2⟩) w
end Go.Proofs.YtoekdeoekcmpgaaGreatDoor
