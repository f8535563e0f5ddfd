/- The program's own Keyword. -/
import Derived.Test.YtkooijhdjjdigaaDoorCO
import Derived.Test.YtkooijhdjjdigaaDoorCA
import Derived.Test.YtkooijhdjjdigaaDoorKL
import Derived.Lib.ConvBytes
namespace Go.Proofs.YtkooijhdjjdigaaDoor
open Go.ChangeShapes Go.WideShapes Go.ChangeAt Go.RowKit
set_option linter.unusedVariables false

def isK (l : List UInt8) : Bool := kwTab.contains l
theorem cap_low (c : UInt8) : capB (lowB c) = capB c := by
  apply UInt8.toNat_inj.1
  rw [capB_nat, capB_nat, lowB_nat]
  split <;> split <;> (try split) <;> omega
theorem low_cap (c : UInt8) : lowB (capB c) = lowB c := by
  apply UInt8.toNat_inj.1
  rw [lowB_nat, lowB_nat, capB_nat]
  split <;> split <;> (try split) <;> omega
theorem kw_cap : ∀ x ∈ kwTab, x.map capB = x := by decide +kernel
theorem kw_iff (x l : List UInt8) (hx : x ∈ kwTab) : x.map lowB = l.map lowB ↔ x = l.map capB := by
  constructor
  · intro h
    have h2 := congrArg (List.map capB) h
    rw [List.map_map, List.map_map] at h2
    have e : capB ∘ lowB = capB := funext cap_low
    rw [e, kw_cap x hx] at h2
    exact h2
  · intro h
    rw [h, List.map_map]
    have e : lowB ∘ capB = lowB := funext low_cap
    rw [e]
theorem find_eq (L : List (List UInt8)) (y : List UInt8) (p : List UInt8 → Bool) (h : ∀ x ∈ L, p x = decide (x = y)) : L.find? p = if L.contains y then some y else none := by
  induction L with
  | nil => rfl
  | cons a L ih =>
    rw [List.find?_cons, h a (by simp)]
    by_cases ha : a = y
    · subst ha; simp
    · rw [decide_eq_false ha, ih (fun x hx => h x (by simp [hx]))]
      have e : (a :: L).contains y = L.contains y := by
        rw [List.contains_cons]; simp; intro h; exact absurd h.symm ha
      rw [e]
theorem keyR_isK (l : List UInt8) : keyR l = if isK (l.map capB) then some (l.map capB) else none := by
  unfold keyR isK
  refine find_eq kwTab (l.map capB) _ fun x hx => ?_
  rw [Bool.eq_iff_iff]
  simp only [decide_eq_true_eq]
  exact kw_iff x l hx
theorem cellF {w : World} {b : Nat} {cs : Array Value} {t : TypeId} {fz : Nat × Nat} (h : w.heap[b]? = some (.cells cs t fz)) (i : Nat) : w.cell? ⟨b, i, none⟩ = cs[i]? := by
  unfold World.cell?; simp only [h]; rfl
theorem frozenF {w : World} {b : Nat} {cs : Array Value} {t : TypeId} {n : Nat} (h : w.heap[b]? = some (.cells cs t (n, n + 1))) (i : Nat) (hi : i < n) : w.frozen? ⟨b, i, none⟩ = false := by
  simp [World.frozen?, h]; omega
theorem setF {w : World} {b : Nat} {cs : Array Value} {t : TypeId} {fz : Nat × Nat} (h : w.heap[b]? = some (.cells cs t fz)) (o : Nat) (v : Value) : (w.setCell ⟨b, o, none⟩ v).heap[b]? = some (.cells (cs.setIfInBounds o v) t fz) := by
  simp [World.setCell, Array.getElem?_modify, h]
theorem convF {W : World} {g n cap : Nat} {cur : Array Value} {fz : Nat × Nat} (U : List UInt8) (hg : W.heap[g]? = some (.cells cur 5 fz)) (hU : U.length = n) (h : ∀ (i : Nat) (x : UInt8), U[i]? = some x → cur[i]? = some (.int .u8 (x.toNat : Int))) :
    (convert 62 9 (.slice (some ⟨g, 0, none⟩) n cap)).run Tryd.prog W = .ok (.string ⟨U.toArray⟩) W := by
  subst hU
  refine run_convert_bytes_back W _ _ 5 ⟨g, 0, none⟩ _ U Tryd.underlying62 Tryd.underlying5 Tryd.underlying9 ?_
  intro j hj
  rw [add_plain, Nat.zero_add, cellF hg]
  exact h j _ (List.getElem?_eq_getElem hj)
end Go.Proofs.YtkooijhdjjdigaaDoor
