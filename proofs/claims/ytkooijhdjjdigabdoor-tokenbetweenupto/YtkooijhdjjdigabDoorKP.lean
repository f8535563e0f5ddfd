/- The document's Split: the walk. -/
import Derived.Test.YtkooijhdjjdigabDoorKO
namespace Go.Proofs.YtkooijhdjjdigabDoor
open Go.ChangeShapes Go.WideShapes Go.ChangeAt Go.RowKit
set_option linter.unusedVariables false

theorem cur_none {T : List Tk} {E : List Nat} {i : Nat} : cur T E i i = none := by simp [cur]
theorem cur_some {T : List Tk} {E : List Nat} {f i : Nat} {t : Tk} {e : Nat} (h : f < i) (ht : T[f]? = some t) (he : E[i - 1]? = some e) : cur T E f i = some (t.a, e) := by simp [cur, h, ht, he]
theorem cur_next {T : List Tk} {E : List Nat} {f i : Nat} {t : Tk} {e : Nat} (hf : f ≤ i) (ht : T[i]? = some t) (he : E[i]? = some e) : cur T E f (i + 1) = some (((cur T E f i).map (·.1)).getD t.a, e) := by
  by_cases h : f < i
  · simp [cur, h, he, show f < i + 1 by omega]
  · obtain rfl : f = i := by omega
    simp [cur, ht, he]
theorem own_base {w : World} {base base2 e size n : Nat} {v : Value} {xs : List Value} (h : w.ownsRow base e size v n xs) (hb : base2 ≤ base) : w.ownsRow base2 e size v n xs := by
  refine ⟨h.1, ?_⟩
  rcases h.2 with hn | ⟨g, cap, cur, hv, hbg, rest⟩
  · exact .inl hn
  · exact .inr ⟨g, cap, cur, hv, Nat.le_trans hb hbg, rest⟩
theorem spl_none {L : List UInt8} {c : Option (Nat × Nat)} : spl L c [] [] = pce L c := by cases c <;> rfl
theorem spl_sep {L : List UInt8} {c : Option (Nat × Nat)} {t : Tk} {T : List Tk} {e : Nat} {E : List Nat} (h : t.k = 6 ∧ t.t = [59]) : spl L c (t :: T) (e :: E) = pce L c ++ spl L none T E := by rw [spl, if_pos h]
theorem spl_on {L : List UInt8} {c : Option (Nat × Nat)} {t : Tk} {T : List Tk} {e : Nat} {E : List Nat} (h : ¬ (t.k = 6 ∧ t.t = [59])) : spl L c (t :: T) (e :: E) = spl L (some ((c.map (·.1)).getD t.a, e)) T E := by rw [spl, if_neg h]
end Go.Proofs.YtkooijhdjjdigabDoor
