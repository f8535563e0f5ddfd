/- Lists of tokens and of texts in memory; the document's Same, SameTexts. -/
import Derived.Test.YtkooijhdjjdigabDoorKL
import Derived.Deep.MidRow
namespace Go.Proofs.YtkooijhdjjdigabDoor
open Go.ChangeShapes Go.WideShapes Go.ChangeAt Go.RowKit
set_option linter.unusedVariables false

/-- A list of tokens in memory, and in every later world. -/
def TkAt (w : World) (v : Value) (l : List Tk) : Prop := ∃ p c, v = .slice p l.length c ∧ (0 < l.length → ∃ g, p = some ⟨g, 0, none⟩ ∧ ∀ V, Below w.heap.size w V → ∀ (i : Nat) (x : Tk), l[i]? = some x → V.cell? ⟨g, i * 3, none⟩ = some (.int .i64 (x.k : Int)) ∧ V.cell? ⟨g, i * 3 + 1, none⟩ = some (.int .i64 (x.a : Int)) ∧ V.cell? ⟨g, i * 3 + 2, none⟩ = some (.string ⟨x.t.toArray⟩))
def StAt (w : World) (v : Value) (l : List (List UInt8)) : Prop := ∃ p c, v = .slice p l.length c ∧ (0 < l.length → ∃ g, p = some ⟨g, 0, none⟩ ∧ ∀ V, Below w.heap.size w V → ∀ (i : Nat) (x : List UInt8), l[i]? = some x → V.cell? ⟨g, i, none⟩ = some (.string ⟨x.toArray⟩))
theorem TkAt.later {w w' : World} {v : Value} {l : List Tk} (h : TkAt w v l) (hb : Below w.heap.size w w') : TkAt w' v l := by
  obtain ⟨p, c, e, hc⟩ := h
  exact ⟨p, c, e, fun h0 => let ⟨g, e2, h2⟩ := hc h0; ⟨g, e2, fun V hV => h2 V (below_trans hb hV)⟩⟩
theorem StAt.later {w w' : World} {v : Value} {l : List (List UInt8)} (h : StAt w v l) (hb : Below w.heap.size w w') : StAt w' v l := by
  obtain ⟨p, c, e, hc⟩ := h
  exact ⟨p, c, e, fun h0 => let ⟨g, e2, h2⟩ := hc h0; ⟨g, e2, fun V hV => h2 V (below_trans hb hV)⟩⟩
theorem stAt_own {w : World} {base : Nat} {v : Value} {l : List (List UInt8)} (h : w.ownsRow base 9 1 v l.length (stL l)) : StAt w v l := own_cell h
theorem tkL_get : ∀ (l : List Tk) (i : Nat) (x : Tk), l[i]? = some x → (tkL l)[i * 3]? = some (.int .i64 (x.k : Int)) ∧ (tkL l)[i * 3 + 1]? = some (.int .i64 (x.a : Int)) ∧ (tkL l)[i * 3 + 2]? = some (.string ⟨x.t.toArray⟩)
  | [], i, x, h => by simp at h
  | y :: l, 0, x, h => by
    simp at h; subst h
    rw [show y :: l = [y] ++ l from rfl, tkL_append, tkL_one]
    exact ⟨rfl, rfl, rfl⟩
  | y :: l, i + 1, x, h => by
    have ih := tkL_get l i x (by simpa using h)
    have e : ∀ d, (tkL (y :: l))[(i + 1) * 3 + d]? = (tkL l)[i * 3 + d]? := fun d => by
      rw [show y :: l = [y] ++ l from rfl, tkL_append, tkL_one, List.getElem?_append_right (by simp [tkC]; omega)]
      congr 1
      simp [tkC]; omega
    exact ⟨(e 0).trans ih.1, (e 1).trans ih.2.1, (e 2).trans ih.2.2⟩
theorem tkAt_own {w : World} {base : Nat} {v : Value} {l : List Tk} (h : w.ownsRow base 32 3 v l.length (tkL l)) : TkAt w v l := by
  rcases h.2 with ⟨rfl, h0⟩ | ⟨g, cap, cur, rfl, hbg, hg, hnc, hcm, hcs, htake⟩
  · exact ⟨none, 0, by rw [h0], fun hh => by omega⟩
  · refine ⟨some ⟨g, 0, none⟩, cap, rfl, fun _ => ⟨g, rfl, fun V hV i x hx => ?_⟩⟩
    have hi := (List.getElem?_eq_some_iff.1 hx).1
    have h1 : V.heap[g]? = some (.cells cur 32 (0, 0)) := (hV.block g (Array.getElem?_eq_some_iff.1 hg).1).trans hg
    have h3 : ∀ d u, d < 3 → (tkL l)[i * 3 + d]? = some u → V.cell? ⟨g, i * 3 + d, none⟩ = some u := fun d u hd hu => by
      rw [cell_of_row V g _ _ _ _ h1, ← Array.getElem?_toList]
      rw [← htake, List.getElem?_take, if_pos (by omega)] at hu
      exact hu
    obtain ⟨x1, x2, x3⟩ := tkL_get l i x hx
    exact ⟨h3 0 _ (by omega) x1, h3 1 _ (by omega) x2, h3 2 _ (by omega) x3⟩
/-- What the library's variable holds. -/
def Env (w : World) : Prop := ∃ m, w.cell? ⟨0, 0, none⟩ = some (.int .i64 m)
theorem cell_later {w w' : World} (b : Below w.heap.size w w') {a : Addr} {v : Value} (h : w.cell? a = some v) : w'.cell? a = some v := by
  refine (b.cell ?_).trans h
  refine Nat.lt_of_not_le fun hn => ?_
  have : w.heap[a.block]? = none := by simp; exact hn
  rw [World.cell?_of_block (w := World.mk #[] w.tape w.drawn w.os w.output) (w' := w) (by rw [this]; simp)] at h
  simp [World.cell?] at h
theorem Env.below {w w' : World} (h : Env w) (b : Below w.heap.size w w') : Env w' := let ⟨m, hm⟩ := h; ⟨m, cell_later b hm⟩
theorem below_drew (w : World) : Below w.heap.size w w.drew := ⟨rfl, rfl, rfl, Nat.le_refl _, fun _ _ => rfl⟩
theorem ba_ne {a b : List UInt8} (h : a ≠ b) : ((⟨a.toArray⟩ : ByteArray).toList == (⟨b.toArray⟩ : ByteArray).toList) = false := by
  refine beq_eq_false_iff_ne.2 fun e => h ?_
  rw [ByteArray.toList_eq, ByteArray.toList_eq] at e
  simpa using e
theorem get_some {α : Type} {l : List α} {i : Nat} (h : i < l.length) : ∃ x, l[i]? = some x ∧ l.drop i = x :: l.drop (i + 1) :=
  ⟨l[i], List.getElem?_eq_getElem h, List.drop_eq_getElem_cons h⟩
end Go.Proofs.YtkooijhdjjdigabDoor
