/- Appending text to a row of bytes that came out of a text: beyond its cells such a row is marked. -/
import Derived.Test.YtfjmoiooonialaaSM
import Derived.Lib.FrozenHead
import Derived.Lib.ConvBytes
namespace Go.Proofs.Ytfjmoiooonialaa
open Go.ChangeShapes Go.WideShapes Go.ChangeAt Go.RowKit
set_option linter.unusedVariables false

/-- Nothing from n on is frozen. -/
def Open (fz : Nat × Nat) (n size : Nat) : Prop := fz.2 ≤ n ∨ size ≤ fz.1

theorem open_at {w : World} {g n j : Nat} {cur : Array Value} {t : TypeId} {fz : Nat × Nat} (hg : w.heap[g]? = some (.cells cur t fz)) (ho : Open fz n cur.size) (h1 : n ≤ j) (h2 : j < cur.size) : w.frozen? ⟨g, j, none⟩ = false := by
  obtain ⟨a, b⟩ := fz
  have : ¬ (a ≤ j ∧ j < b) := by
    rcases ho with h | h
    · simp only at h; omega
    · simp only at h; omega
  simp only [World.frozen?, hg, Bool.and_eq_false_iff, decide_eq_false_iff_not]
  omega

theorem store_open (g n : Nat) (t : TypeId) (fz : Nat × Nat) (vs : List Value) (h1 : ∀ v ∈ vs, v.oneCell' = true) : ∀ (i : Nat) (cur : Array Value) (w : World), w.heap[g]? = some (.cells cur t fz) → Open fz n cur.size → n + i + vs.length ≤ cur.size →
    (storeCells ⟨g, n, none⟩ vs i).run Try.prog w = .ok () (w.setRow g (cur.toList.take (n + i) ++ vs ++ cur.toList.drop (n + i + vs.length)).toArray) := by
  induction vs with
  | nil =>
    intro i cur w hg _ _
    have e : (cur.toList.take (n + i) ++ [] ++ cur.toList.drop (n + i + ([] : List Value).length)).toArray = cur := by simp
    rw [e, setRow_self w g cur t fz hg]
    rfl
  | cons v rest ih =>
    intro i cur w hg ho hl
    have hl' : n + i + rest.length + 1 ≤ cur.size := by simpa [Nat.add_assoc] using hl
    have ha : (⟨g, n, none⟩ : Addr).add i = ⟨g, n + i, none⟩ := add_plain g n i
    have hc : w.cell? ⟨g, n + i, none⟩ = some (cur[n + i]'(by omega)) := by simp [World.cell?, hg, show n + i < cur.size by omega]
    have hs : (store ((⟨g, n, none⟩ : Addr).add i) v).run Try.prog w = .ok () (w.setRow g (cur.setIfInBounds (n + i) v)) := by
      rw [ha, run_store Try.prog w _ v _ (h1 v (by simp)), hc]
      simp [open_at hg ho (Nat.le_add_right n i) (by omega), setCell_eq_setRow w g (n + i) cur t fz v hg]
    have hn := ih (fun x hx => h1 x (by simp [hx])) (i + 1) (cur.setIfInBounds (n + i) v) (w.setRow g (cur.setIfInBounds (n + i) v)) (setRow_heap w g cur _ t _ hg) (by rw [Array.size_setIfInBounds]; exact ho) (by rw [Array.size_setIfInBounds]; omega)
    show (storeCells ⟨g, n, none⟩ (v :: rest) i).run Try.prog w = _
    rw [storeCells, Sem.run_bind, hs, Result.andThen_ok, hn, setRow_setRow]
    have e := list_seg_step cur.toList (n + i) v rest (by simp; omega)
    congr 3
    simpa [Array.toList_setIfInBounds, Nat.add_assoc] using e
end Go.Proofs.Ytfjmoiooonialaa
