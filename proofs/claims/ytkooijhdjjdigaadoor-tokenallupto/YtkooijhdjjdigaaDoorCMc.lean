/- Split's pieces, token for token. -/
import Derived.Test.YtkooijhdjjdigaaDoorCMb
import Derived.Test.YtkooijhdjjdigaaDoorCQ
import Derived.Test.YtkooijhdjjdigaaDoorKO
namespace Go.Proofs.YtkooijhdjjdigaaDoor
open Go.ChangeShapes Go.WideShapes Go.ChangeAt Go.RowKit Go.Shelf
set_option linter.unusedVariables false

/-- One token on: the pieces, and where the one under way begins. -/
def stp (L : List UInt8) (p : List (List UInt8) × Option Nat) (x : Tk × Nat) : List (List UInt8) × Option Nat :=
  if x.1.k = 6 ∧ x.1.t = [59] then (p.1, none) else match p.2 with
    | none => (p.1 ++ [(L.take x.2).drop x.1.a], some x.1.a)
    | some a => (p.1.dropLast ++ [(L.take x.2).drop a], some a)
def spf (L : List UInt8) (G : List (Tk × Nat)) (k : Nat) : List (List UInt8) × Option Nat := (G.take k).foldl (stp L) ([], none)
theorem stp_spl (L : List UInt8) : ∀ (T : List Tk) (E : List Nat) (O : List (List UInt8)) (c : Option (Nat × Nat)), ((T.zip E).foldl (stp L) (O ++ pce L c, c.map (·.1))).1 = O ++ spl L c T E
  | [], E, O, c => by cases E <;> (rw [spl] <;> first | rfl | simp)
  | t :: T, [], O, c => by
    rw [spl]
    · simp
    · simp
  | t :: T, e :: E, O, c => by
    rw [List.zip_cons_cons, List.foldl_cons, spl]
    by_cases h : t.k = 6 ∧ t.t = [59]
    · rw [if_pos h]
      have := stp_spl L T E (O ++ pce L c) none
      rw [show pce L none = [] from rfl, List.append_nil, Option.map_none] at this
      rw [stp, if_pos h]
      exact this.trans (List.append_assoc _ _ _)
    · rw [if_neg h]
      have := stp_spl L T E O (some ((c.map (·.1)).getD t.a, e))
      rw [← this, stp, if_neg h]
      cases c with
      | none => simp [pce]
      | some x => simp [pce]
theorem spf_zero (L : List UInt8) (G : List (Tk × Nat)) : spf L G 0 = ([], none) := by simp [spf]
theorem spf_succ (L : List UInt8) (G : List (Tk × Nat)) {k : Nat} (h : k < G.length) : spf L G (k + 1) = stp L (spf L G k) (gx G k) := by
  unfold spf gx
  rw [List.take_add_one, List.foldl_append]
  simp [h]
theorem stp_sep {L : List UInt8} {p : List (List UInt8) × Option Nat} {x : Tk × Nat} (h : x.1.k = 6 ∧ x.1.t = [59]) : stp L p x = (p.1, none) := by rw [stp, if_pos h]
theorem stp_new {L : List UInt8} {p : List (List UInt8) × Option Nat} {x : Tk × Nat} (h : ¬(x.1.k = 6 ∧ x.1.t = [59])) (hp : p.2 = none) : stp L p x = (p.1 ++ [(L.take x.2).drop x.1.a], some x.1.a) := by rw [stp, if_neg h, hp]
theorem stp_on {L : List UInt8} {p : List (List UInt8) × Option Nat} {x : Tk × Nat} {a : Nat} (h : ¬(x.1.k = 6 ∧ x.1.t = [59])) (hp : p.2 = some a) : stp L p x = (p.1.dropLast ++ [(L.take x.2).drop a], some a) := by rw [stp, if_neg h, hp]
theorem spf_has (L : List UInt8) (G : List (Tk × Nat)) : ∀ (k : Nat), k ≤ G.length → (spf L G k).1.length ≤ k ∧ ∀ a, (spf L G k).2 = some a → 1 ≤ (spf L G k).1.length ∧ ∃ j, j < k ∧ (gx G j).1.a = a
  | 0, _ => by simp [spf_zero]
  | k + 1, h => by
    obtain ⟨h1, h2⟩ := spf_has L G k (by omega)
    rw [spf_succ L G (by omega)]
    by_cases hs : (gx G k).1.k = 6 ∧ (gx G k).1.t = [59]
    · rw [stp_sep hs]; exact ⟨by simp; omega, fun a ha => by simp at ha⟩
    · cases hp : (spf L G k).2 with
      | none => rw [stp_new hs hp]; exact ⟨by simp; omega, fun a ha => ⟨by simp, k, by omega, by simpa using ha⟩⟩
      | some b =>
        obtain ⟨h3, j, hj, h4⟩ := h2 b hp
        rw [stp_on hs hp]
        refine ⟨by simp; omega, fun a ha => ⟨by simp, j, by omega, ?_⟩⟩
        simp at ha
        rw [h4, ha]
theorem wkS (l : List UInt8) : wklS l = (toksS l).1.zip (toksS l).2.1 ++ (if 0 ≤ (toksS l).2.2 then [(⟨0, (toksS l).2.2.toNat, []⟩, (toksS l).2.2.toNat)] else []) := wkl_toks _ _ _
theorem wk_at {l : List UInt8} {G : List (Tk × Nat)} (hG : wklS l = G) {k : Nat} (hk : k < G.length) (h : (gx G k).1.k ≠ 0) : k < (toksS l).1.length := by
  have hS : (toksS l).2.1.length = (toksS l).1.length := (toksS_rise l).len
  rcases Nat.lt_or_ge k (toksS l).1.length with h1 | h1
  · exact h1
  · exfalso
    apply h
    have hw := wkS l
    rw [hG] at hw
    by_cases hb : 0 ≤ (toksS l).2.2
    · rw [if_pos hb] at hw
      have hl : G.length = (toksS l).1.length + 1 := by rw [hw]; simp [hS]
      obtain rfl : k = (toksS l).1.length := by omega
      unfold gx
      rw [hw, List.getD_eq_getElem?_getD, List.getElem?_append_right (by simp [hS])]
      simp [hS]
    · rw [if_neg hb, List.append_nil] at hw
      have hl : G.length = (toksS l).1.length := by rw [hw]; simp [hS]
      omega
theorem wk_get {l : List UInt8} {G : List (Tk × Nat)} (hG : wklS l = G) {k : Nat} (hk : k < (toksS l).1.length) : (toksS l).1[k]? = some (gx G k).1 ∧ (toksS l).2.1[k]? = some (gx G k).2 := by
  have hS : (toksS l).2.1.length = (toksS l).1.length := (toksS_rise l).len
  have hw := wkS l
  rw [hG] at hw
  have e : gx G k = ((toksS l).1[k], (toksS l).2.1[k]) := by
    unfold gx
    rw [hw, List.getD_eq_getElem?_getD, List.getElem?_append_left (by simp [hS]; omega)]
    rw [List.getElem?_eq_getElem (by simp [hS]; omega)]
    simp
  rw [e]
  exact ⟨by simp, by simp⟩
theorem wk_bound {l : List UInt8} {G : List (Tk × Nat)} (hG : wklS l = G) {j k : Nat} (hk : k < G.length) (h : (gx G k).1.k ≠ 0) (hj : j ≤ k) : (gx G j).1.a ≤ (gx G k).2 ∧ (gx G k).2 ≤ l.length := by
  have h1 := wk_at hG hk h
  have hr := toksS_rise l
  exact ⟨hr.between j k _ _ hj (wk_get hG (by omega)).1 (wk_get hG h1).2, (hr.ends k _ (wk_get hG h1).2).2⟩
theorem split_good {l : List UInt8} {G : List (Tk × Nat)} (hG : wklS l = G) (h : ∀ k, k < G.length → (gx G k).1.k ≠ 0) : splitR l = ((spf l G G.length).1, 0) := by
  have hS : (toksS l).2.1.length = (toksS l).1.length := (toksS_rise l).len
  have hw := wkS l
  rw [hG] at hw
  have hb : ¬ 0 ≤ (toksS l).2.2 := by
    intro hb
    rw [if_pos hb] at hw
    have hl : G.length = (toksS l).1.length + 1 := by rw [hw]; simp [hS]
    have := wk_at hG (k := G.length - 1) (by omega) (h _ (by omega))
    omega
  rw [if_neg hb, List.append_nil] at hw
  unfold splitR
  rw [if_neg hb]
  unfold spf
  rw [List.take_length, hw]
  have := stp_spl l (toksS l).1 (toksS l).2.1 [] none
  rw [show pce l none = [] from rfl, List.append_nil, List.nil_append, Option.map_none] at this
  rw [this]
theorem split_wrong {l : List UInt8} {G : List (Tk × Nat)} (hG : wklS l = G) {k : Nat} (hk : k < G.length) (h : (gx G k).1.k = 0) : splitR l = ([], 250) := by
  have hS : (toksS l).2.1.length = (toksS l).1.length := (toksS_rise l).len
  have hw := wkS l
  rw [hG] at hw
  unfold splitR
  rw [if_pos]
  by_cases hb : 0 ≤ (toksS l).2.2
  · exact hb
  · exfalso
    rw [if_neg hb, List.append_nil] at hw
    have hl : G.length = (toksS l).1.length := by rw [hw]; simp [hS]
    have h1 := (wk_get hG (k := k) (by omega)).1
    have := toks_kind _ _ _ _ (List.mem_of_getElem? (l := (toksS l).1) h1)
    omega
end Go.Proofs.YtkooijhdjjdigaaDoor
