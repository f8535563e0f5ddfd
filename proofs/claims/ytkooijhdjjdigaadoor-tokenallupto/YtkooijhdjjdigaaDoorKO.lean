/- The document's Split. -/
import Derived.Test.YtkooijhdjjdigaaDoorKN
import Derived.Deep.RegionHeld3
namespace Go.Proofs.YtkooijhdjjdigaaDoor
open Go.ChangeShapes Go.WideShapes Go.ChangeAt Go.RowKit
set_option linter.unusedVariables false

/-- The piece that is under way. -/
def pce (L : List UInt8) : Option (Nat × Nat) → List (List UInt8)
  | none => []
  | some (a, e) => [(L.take e).drop a]
/-- The pieces between the signs ; -/
def spl (L : List UInt8) : Option (Nat × Nat) → List Tk → List Nat → List (List UInt8)
  | cur, t :: T, e :: E => if t.k = 6 ∧ t.t = [59] then pce L cur ++ spl L none T E else spl L (some ((cur.map (·.1)).getD t.a, e)) T E
  | cur, _, _ => pce L cur
def splitR (l : List UInt8) : List (List UInt8) × Int := if 0 ≤ (toksS l).2.2 then ([], 250) else (spl l none (toksS l).1 (toksS l).2.1, 0)
/-- Tokens that rise, and end where they do. -/
def Rise (hi : Nat) : Nat → List Tk → List Nat → Prop
  | lo, t :: T, e :: E => lo ≤ t.a ∧ t.a < e ∧ e ≤ hi ∧ Rise hi e T E
  | _, [], [] => True
  | _, _, _ => False
theorem Rise.mono {hi : Nat} : ∀ {T : List Tk} {E : List Nat} {lo lo' : Nat}, lo' ≤ lo → Rise hi lo T E → Rise hi lo' T E
  | [], [], _, _, _, h => h
  | t :: T, e :: E, _, _, hl, h => ⟨by have := h.1; omega, h.2⟩
  | [], _ :: _, _, _, _, h => h.elim
  | _ :: _, [], _, _, _, h => h.elim
theorem toks_rise : ∀ (f : Nat) (l : List UInt8) (a hi : Nat), a + l.length ≤ hi → Rise hi a (toks f l a).1 (toks f l a).2.1
  | 0, l, a, hi, _ => trivial
  | f + 1, [], a, hi, _ => by rw [toks_nil]; trivial
  | f + 1, c :: r, a, hi, h => by
    cases ht : tok (c :: r) with
    | none => rw [toks_bad ht]; trivial
    | some nk =>
      obtain ⟨n, k⟩ := nk
      rw [toks_ok ht]
      have h1 := tok_le _ _ _ ht
      have h2 := skp_le false ((c :: r).drop n)
      rw [List.length_drop] at h2
      refine ⟨Nat.le_refl _, by show a < a + n; omega, by omega, ?_⟩
      refine (toks_rise f _ _ hi ?_).mono (by omega)
      rw [List.length_drop]
      omega
theorem toksS_rise (l : List UInt8) : Rise l.length 0 (toksS l).1 (toksS l).2.1 := by
  unfold toksS
  refine (toks_rise _ _ _ _ ?_).mono (Nat.zero_le _)
  have := skp_le false l
  rw [List.length_drop]; omega
theorem Rise.len {hi : Nat} : ∀ {T : List Tk} {E : List Nat} {lo : Nat}, Rise hi lo T E → E.length = T.length
  | [], [], _, _ => rfl
  | t :: T, e :: E, _, h => by simp [h.2.2.2.len]
  | [], _ :: _, _, h => h.elim
  | _ :: _, [], _, h => h.elim
theorem Rise.ends {hi : Nat} : ∀ {T : List Tk} {E : List Nat} {lo : Nat}, Rise hi lo T E → ∀ (i e : Nat), E[i]? = some e → lo ≤ e ∧ e ≤ hi
  | [], [], _, _, i, e, h => by simp at h
  | t :: T, e0 :: E, _, h, 0, e, hh => by simp at hh; subst hh; exact ⟨by have := h.1; have := h.2.1; omega, h.2.2.1⟩
  | t :: T, e0 :: E, _, h, i + 1, e, hh => by have := h.2.2.2.ends i e (by simpa using hh); have h1 := h.1; have h2 := h.2.1; exact ⟨by omega, this.2⟩
  | [], _ :: _, _, h, _, _, _ => h.elim
  | _ :: _, [], _, h, _, _, _ => h.elim
theorem Rise.between {hi : Nat} : ∀ {T : List Tk} {E : List Nat} {lo : Nat}, Rise hi lo T E → ∀ (f i : Nat) (t : Tk) (e : Nat), f ≤ i → T[f]? = some t → E[i]? = some e → t.a ≤ e
  | [], [], _, _, f, i, t, e, _, h, _ => by simp at h
  | t0 :: T, e0 :: E, _, h, 0, 0, t, e, _, h1, h2 => by simp at h1 h2; subst h1 h2; exact Nat.le_of_lt h.2.1
  | t0 :: T, e0 :: E, _, h, 0, i + 1, t, e, _, h1, h2 => by
    simp at h1; subst h1
    have := h.2.2.2.ends i e (by simpa using h2)
    have := h.2.1
    omega
  | t0 :: T, e0 :: E, _, h, f + 1, i + 1, t, e, hf, h1, h2 => h.2.2.2.between f i t e (by omega) (by simpa using h1) (by simpa using h2)
  | t0 :: T, e0 :: E, _, h, f + 1, 0, t, e, hf, h1, h2 => by omega
  | [], _ :: _, _, h, _, _, _, _, _, _, _ => h.elim
  | _ :: _, [], _, h, _, _, _, _, _, _, _ => h.elim
theorem Rise.few {hi : Nat} : ∀ {T : List Tk} {E : List Nat} {lo : Nat}, Rise hi lo T E → T.length = 0 ∨ lo + T.length ≤ hi
  | [], [], _, _ => .inl rfl
  | t :: T, e :: E, lo, h => by
    have h1 := h.1
    have h2 := h.2.1
    have h3 := h.2.2.1
    rcases h.2.2.2.few with h4 | h4
    · right; simp; omega
    · right; simp; omega
  | [], _ :: _, _, h => h.elim
  | _ :: _, [], _, h => h.elim
/-- The piece under way from the token f on, ahead of token i. -/
def cur (T : List Tk) (E : List Nat) (f i : Nat) : Option (Nat × Nat) := if f < i then some (((T[f]?).map (·.a)).getD 0, (E[i - 1]?).getD 0) else none
theorem inAt_own {w : World} {base : Nat} {v : Value} {l : List Nat} (h : w.ownsRow base 3 1 v l.length (inL l)) : ∃ p c, v = .slice p l.length c ∧ (0 < l.length → ∃ g, p = some ⟨g, 0, none⟩ ∧ ∀ V, Below w.heap.size w V → ∀ (i x : Nat), l[i]? = some x → V.cell? ⟨g, i, none⟩ = some (.int .i64 (x : Int))) := by
  rcases h.2 with ⟨rfl, h0⟩ | ⟨g, cap, cur, rfl, hbg, hg, hnc, hcm, hcs, htake⟩
  · exact ⟨none, 0, by rw [h0], fun hh => by omega⟩
  · refine ⟨some ⟨g, 0, none⟩, cap, rfl, fun _ => ⟨g, rfl, fun V hV i x hx => ?_⟩⟩
    have hi := (List.getElem?_eq_some_iff.1 hx).1
    have h1 : V.heap[g]? = some (.cells cur 3 (0, 0)) := (hV.block g (Array.getElem?_eq_some_iff.1 hg).1).trans hg
    rw [cell_of_row V g i _ _ _ h1, ← Array.getElem?_toList]
    have h2 : (cur.toList.take (l.length * 1))[i]? = (inL l)[i]? := by rw [htake]
    rw [List.getElem?_take, if_pos (by omega)] at h2
    rw [h2, inL, List.getElem?_map, hx]
    rfl
theorem strInfo : ∃ i, Tryd.prog.info? 9 = some i ∧ i.zero = some (.string ⟨#[]⟩) ∧ i.size = 1 ∧ i.bytes = 16 := by
  have h : (Tryd.prog.info? 9).map (fun i => (i.zero, i.size, i.bytes)) = some (some (.string ⟨#[]⟩), 1, 16) := by kernel_rfl
  obtain ⟨i, h1, h2⟩ := Option.map_eq_some_iff.1 h
  simp only [Prod.mk.injEq] at h2
  exact ⟨i, h1, h2.1, h2.2.1, h2.2.2⟩
end Go.Proofs.YtkooijhdjjdigaaDoor
