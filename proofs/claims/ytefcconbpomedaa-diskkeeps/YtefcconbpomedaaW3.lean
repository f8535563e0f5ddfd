/- Plain: what is kept and all its changes is what is seen. -/
import Derived.Test.YtefcconbpomedaaV8
namespace Go.Proofs.Ytefcconbpomedaa
open Go.ChangeShapes Go.WideShapes Go.ChangeAt Go.RowKit
set_option linter.unusedVariables false

theorem arrN_one : arrN 1 = 64 := rfl
theorem isN_self (nm : ByteArray) (s z : Int) (d : List UInt8) : isN nm ⟨nm, s, z, d⟩ = true := by simp [isN]
theorem keepF_append (nm : ByteArray) (l : List UInt8) (a b : List Ch) : keepF nm l (a ++ b) = keepF nm (keepF nm l a) b := by unfold keepF; rw [List.foldl_append]
theorem rsz_self (l : List UInt8) : rsz l l.length = l := by unfold rsz; rw [if_pos (Nat.le_refl _), List.take_of_length_le (Nat.le_refl _)]
theorem rsz_grown (l : List UInt8) (n : Nat) (h : l.length < n) : rsz l n = grownTo l n := by unfold rsz grownTo; rw [if_neg (by omega), if_pos h]
/-- A sector taken whole. -/
theorem take_sec (nm : ByteArray) (l t : List UInt8) (k : Nat) (hlen : l.length = t.length) (hk : k * 64 < t.length) : takeL l ⟨nm, (k : Int), 0, secOf t k⟩ 1 = splice l (k * 64) ((t.drop (k * 64)).take 64) := by
  unfold takeL
  rw [if_neg (by decide)]
  have hs : ¬ (k : Int) = -1 := by omega
  rw [if_neg hs]
  show putL l ((k : Int).toNat * 64) ((secOf t k).take (arrN 1)) = _
  rw [Int.toNat_natCast, arrN_one]
  unfold putL
  rw [if_pos (by omega)]
  have h64 := length_secOf t k
  rw [List.take_of_length_le (l := secOf t k) (by omega)]
  congr 1
  unfold secOf splice
  rw [List.take_zero, List.nil_append, Nat.zero_add]
  have hd : ((t.drop (k * 64)).take 64).length = min 64 (t.length - k * 64) := by rw [List.length_take, List.length_drop]
  rw [List.take_append, hd]
  by_cases h : t.length - k * 64 ≤ 64
  · rw [List.take_of_length_le (by rw [hd]; omega), show l.length - k * 64 - min 64 (t.length - k * 64) = 0 by omega, List.take_zero, List.append_nil]
  · have hz : List.drop (min 64 (t.length - k * 64)) (List.replicate 64 (0 : UInt8)) = [] := List.drop_of_length_le (by rw [List.length_replicate]; omega)
    rw [List.take_of_length_le (by rw [hd]; omega), hz, List.take_nil, List.append_nil]
/-- Sectors taken one behind the other. -/
theorem keep_secs (nm : ByteArray) (t : List UInt8) : ∀ (n k0 : Nat) (l : List UInt8), l.length = t.length → (∀ k, k0 ≤ k → k < k0 + n → k * 64 < t.length) → (∀ i, i < k0 * 64 → l[i]? = t[i]?) → (∀ i, (k0 + n) * 64 ≤ i → l[i]? = t[i]?) → keepF nm l (secs nm t k0 n) = t
  | 0, k0, l, hl, hk, h1, h2 => by
    show l = t
    apply List.ext_getElem?
    intro i
    by_cases h : i < k0 * 64
    · exact h1 i h
    · exact h2 i (by omega)
  | n + 1, k0, l, hl, hk, h1, h2 => by
    have hs : secs nm t k0 (n + 1) = ⟨nm, (k0 : Int), 0, secOf t k0⟩ :: secs nm t (k0 + 1) n := by simp [secs, List.range'_succ]
    rw [hs]
    show keepF nm (if isN nm ⟨nm, (k0 : Int), 0, secOf t k0⟩ then takeL l ⟨nm, (k0 : Int), 0, secOf t k0⟩ 1 else l) (secs nm t (k0 + 1) n) = t
    rw [isN_self, if_pos rfl, take_sec nm l t k0 hl (hk k0 (by omega) (by omega))]
    have hd : ((t.drop (k0 * 64)).take 64).length = min 64 (t.length - k0 * 64) := by rw [List.length_take, List.length_drop]
    have hk0 := hk k0 (by omega) (by omega)
    have hspl : (splice l (k0 * 64) ((t.drop (k0 * 64)).take 64)).length = l.length := length_splice _ _ _ (by omega)
    have hget : ∀ i, (splice l (k0 * 64) ((t.drop (k0 * 64)).take 64))[i]? = if i < k0 * 64 then l[i]? else if i < k0 * 64 + min 64 (t.length - k0 * 64) then t[i]? else l[i]? := fun i => by
      unfold splice
      have hta : (l.take (k0 * 64)).length = k0 * 64 := by rw [List.length_take]; omega
      by_cases hi : i < k0 * 64
      · rw [if_pos hi, List.getElem?_append_left (by omega), List.getElem?_take, if_pos hi]
      · rw [if_neg hi, List.getElem?_append_right (by omega), hta]
        by_cases hi2 : i < k0 * 64 + min 64 (t.length - k0 * 64)
        · rw [if_pos hi2, List.getElem?_append_left (by omega), List.getElem?_take, if_pos (by omega), List.getElem?_drop, show k0 * 64 + (i - k0 * 64) = i by omega]
        · rw [if_neg hi2, List.getElem?_append_right (by omega), List.getElem?_drop, hd]
          congr 1
          omega
    refine keep_secs nm t n (k0 + 1) _ (by omega) (fun k a b => hk k (by omega) (by omega)) (fun i hi => ?_) (fun i hi => ?_)
    · rw [hget]
      split
      · exact h1 i (by assumption)
      · split
        · rfl
        · have e1 : l[i]? = none := by rw [List.getElem?_eq_none_iff]; omega
          have e2 : t[i]? = none := by rw [List.getElem?_eq_none_iff]; omega
          rw [e1, e2]
    · rw [hget, if_neg (by omega)]
      split
      · rfl
      · exact h2 i (by omega)
/-- What a write notes is what it does. -/
theorem keep_wchs (nm : ByteArray) (l d : List UInt8) (at_ : Nat) (hd : 0 < d.length) : keepF nm l (wchs nm l at_ d) = wseen l at_ d := by
  unfold wchs
  rw [keepF_append]
  have hg : keepF nm l (wsize nm l (at_ + d.length)) = grownTo l (at_ + d.length) := by
    unfold wsize
    by_cases h : l.length < at_ + d.length
    · rw [if_pos h]
      show (if isN nm ⟨nm, -1, ((at_ + d.length : Nat) : Int), List.replicate 64 0⟩ then takeL l ⟨nm, -1, ((at_ + d.length : Nat) : Int), List.replicate 64 0⟩ 1 else l) = _
      rw [isN_self, if_pos rfl]
      unfold takeL
      rw [if_neg (by decide), if_pos rfl]
      show rsz l ((at_ + d.length : Nat) : Int).toNat = _
      rw [Int.toNat_natCast, rsz_grown l _ h]
    · rw [if_neg h]
      show l = _
      unfold grownTo
      rw [if_neg h]
  rw [hg]
  have hgl := length_grownTo l (at_ + d.length)
  have hwl := length_wseen l at_ d
  have hget : ∀ i, (wseen l at_ d)[i]? = if i < at_ then (grownTo l (at_ + d.length))[i]? else if i < at_ + d.length then d[i - at_]? else (grownTo l (at_ + d.length))[i]? := fun i => by
    unfold wseen splice
    have hta : ((grownTo l (at_ + d.length)).take at_).length = at_ := by rw [List.length_take]; omega
    by_cases hi : i < at_
    · rw [if_pos hi, List.getElem?_append_left (by omega), List.getElem?_take, if_pos hi]
    · rw [if_neg hi, List.getElem?_append_right (by omega), hta]
      by_cases hi2 : i < at_ + d.length
      · rw [if_pos hi2, List.getElem?_append_left (by omega)]
      · rw [if_neg hi2, List.getElem?_append_right (by omega), List.getElem?_drop]
        congr 1
        omega
  refine keep_secs nm (wseen l at_ d) _ (at_ / 64) _ (by omega) (fun k h1 h2 => by omega) (fun i hi => ?_) (fun i hi => ?_)
  · rw [hget, if_pos (by omega)]
  · rw [hget, if_neg (by omega), if_neg (by omega)]
end Go.Proofs.Ytefcconbpomedaa
