/- What a token's bytes say; the token that stands at a text's beginning. -/
import Derived.Test.YtkooijhdjjdigaaDoorCI
import Derived.Test.YtkooijhdjjdigaaDoorCG
import Derived.Test.YtkooijhdjjdigaaDoorCO
namespace Go.Proofs.YtkooijhdjjdigaaDoor
open Go.ChangeShapes Go.WideShapes Go.ChangeAt Go.RowKit Go.Shelf
set_option linter.unusedVariables false

theorem meant_e (k : Nat) (s : ByteArray) (hs : s.size ≤ 4294967280) (h3 : k = 3 → 2 ≤ s.size ∧ ∃ u, unq (s.data.toList.dropLast.drop 1) = some u)
    (h4 : k = 4 → 3 ≤ s.size ∧ (∀ c ∈ s.data.toList.dropLast.drop 2, hexB c = true) ∧ (s.data.toList.dropLast.drop 2).length % 2 = 0) (h5 : k = 5 → 1 ≤ s.size) (w : World) (hE : Env w) :
    Calls Tryd.prog 66 #[.int .i64 (k : Int), .string s] w fun e w' => e = .returned (.string ⟨(tokT s.data.toList k).toArray⟩) ∧ Below w.heap.size w w' := by
  have hw1 : IntKind.i64.wrap ((s.size : Int) - 1) = (s.size : Int) - 1 := by rw [IntKind.wrap_i64]; omega
  have m1 : ((s.size : Int) - 1).toNat = s.size - 1 := by omega
  have m5 : (s.size : Int) - 1 ≤ (s.size : Int) := by omega
  have hdl : s.data.toList.take (s.size - 1) = s.data.toList.dropLast := by rw [List.dropLast_eq_take]; simp
  by_cases k3 : k = 3
  · obtain ⟨hsz, u, hu⟩ := h3 k3
    subst k3
    have n1 : (1 : Int) ≤ (s.size : Int) - 1 := by omega
    obtain ⟨m, hm⟩ := hE
    have e0 : (s.extract 1 (s.size - 1)).data.toList = s.data.toList.dropLast.drop 1 := by rw [ext_list, hdl]
    have hcm := Lib.countB_mul_le ⟨#[39, 39]⟩ (by decide) (s.extract 1 (s.size - 1)).size (s.extract 1 (s.size - 1)) (Nat.le_refl _)
    have hx : (s.extract 1 (s.size - 1)).size ≤ s.size := by simp; omega
    have s2 : (⟨#[39, 39]⟩ : ByteArray).size = 2 := rfl
    have s1 : (⟨#[39]⟩ : ByteArray).size = 1 := rfl
    rw [s2] at hcm
    have HR := hide (Tryd.strings_ReplaceAll (s.extract 1 (s.size - 1)) ⟨#[39, 39]⟩ ⟨#[39]⟩ m w (by omega) hm (by decide) (by rw [s1]; omega))
    rw [e0] at HR
    have e4 : Lib.replaceAll (s.data.toList.dropLast.drop 1) (⟨#[39, 39]⟩ : ByteArray).data.toList (⟨#[39]⟩ : ByteArray).data.toList = u := unesc_eq hu
    rw [e4] at HR
    have e5 : tokT s.data.toList 3 = u := by simp only [tokT, if_true]; rw [hu]; rfl
    rw [e5]
    clear e4 e5 hu e0 hcm hx s2 s1 hdl
    go_enter Tryd.func66, Tryd.ntmps66
    go_wp2_with (first
      | (go_at_call 55; (with_reducible refine Calls.mono HR.out ?_); rintro e w5 ⟨rfl, hb⟩; have HB := hide hb; clear hb))
    go_ret
    exact ⟨rfl, HB.out⟩
  have e3 : ((k : Int) == 3) = false := by simp; omega
  by_cases k4 : k = 4
  · obtain ⟨hsz, hh, hev⟩ := h4 k4
    subst k4
    have n1 : (2 : Int) ≤ (s.size : Int) - 1 := by omega
    have e0 : (s.extract 2 (s.size - 1)).data.toList = s.data.toList.dropLast.drop 2 := by rw [ext_list, hdl]
    have HU := hide (unhex_e (s.extract 2 (s.size - 1)) (by simp; omega) (by rw [e0]; exact hh) w)
    rw [e0] at HU
    have e5 : tokT s.data.toList 4 = uhB (s.data.toList.dropLast.drop 2) := by
      simp only [tokT, if_neg (show ¬ (4 : Nat) = 3 by decide), if_true]
      rw [uhB_unhx _ hh hev]
      rfl
    rw [e5]
    generalize uhB (s.data.toList.dropLast.drop 2) = u at *
    clear e5 e0 hh hev hdl
    go_enter Tryd.func66, Tryd.ntmps66
    go_wp2_with (first
      | (go_at_call 84; (with_reducible refine Calls.mono HU.out ?_); rintro e w5 ⟨rfl, hb⟩; have HB := hide hb; clear hb))
    go_ret
    exact ⟨rfl, HB.out⟩
  have e4 : ((k : Int) == 4) = false := by simp; omega
  by_cases k5 : k = 5
  · have hsz := h5 k5
    subst k5
    have n1 : (1 : Int) ≤ (s.size : Int) := by omega
    have e5 : (⟨(tokT s.data.toList 5).toArray⟩ : ByteArray) = s.extract 1 s.size := by
      exact (ba_eq (show _ = tokT s.data.toList 5 from ext_drop s 1)).symm
    rw [e5]
    clear e5 hdl
    go_enter Tryd.func66, Tryd.ntmps66
    go_wp2
    go_ret
    exact ⟨rfl, Below.refl _ _⟩
  have e5 : ((k : Int) == 5) = false := by simp; omega
  have e6 : (⟨(tokT s.data.toList k).toArray⟩ : ByteArray) = s := by
    simp only [tokT, if_neg k3, if_neg k4, if_neg k5]
  rw [e6]
  clear e6 hdl
  go_enter Tryd.func66, Tryd.ntmps66
  go_wp2
  go_ret
  exact ⟨rfl, Below.refl _ _⟩
/-- What the program tells of the token that stands at a text's beginning. -/
def fstV (l : List UInt8) : Value := match tok l with
  | some (n, k) => .tuple #[.agg #[.int .i64 (k : Int), .int .i64 0, .string ⟨(tokT (l.take n) k).toArray⟩], .int .i64 (n : Int)]
  | none => .tuple #[.agg #[.int .i64 0, .int .i64 0, .string ⟨#[]⟩], .int .i64 0]
theorem bgn_le (l : List UInt8) : 1 ≤ bgn l ∧ bgn l ≤ 6 := by
  unfold bgn
  cases l with
  | nil => simp
  | cons c r => simp only; split; · omega
                split; · omega
                split; · omega
                split; · omega
                split <;> omega
end Go.Proofs.YtkooijhdjjdigaaDoor
