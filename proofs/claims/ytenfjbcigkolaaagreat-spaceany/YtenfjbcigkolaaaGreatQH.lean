/- Package space: which pages are free, in plain words. -/
import Derived.Test.YtenfjbcigkolaaaGreatQE
import Derived.Test.YtenfjbcigkolaaaGreatQG
namespace Go.Proofs.YtenfjbcigkolaaaGreat
open Go.ChangeShapes Go.WideShapes Go.ChangeAt Go.RowKit Go.Maps
set_option linter.unusedVariables false

/-- The pages of a list are met one after another from a link on. -/
inductive Ch (P : Nat → List UInt8) (n : Nat) : Nat → List Nat → Prop where
  | nil : Ch P n 0 []
  | cons {g : Nat} {G : List Nat} (h2 : 2 ≤ g) (hn : g ≤ n) (hf : isFree (P g) = true) (h : Ch P n (linkV (P g)) G) : Ch P n g (g :: G)
theorem Ch.all {P : Nat → List UInt8} {n L : Nat} {G : List Nat} (h : Ch P n L G) : ∀ g ∈ G, 2 ≤ g ∧ g ≤ n := by
  induction h with
  | nil => simp
  | cons h2 hn hf h ih =>
    intro g hg
    rcases List.mem_cons.1 hg with rfl | hg
    · exact ⟨h2, hn⟩
    · exact ih g hg
theorem Ch.same {P Q : Nat → List UInt8} {n m L : Nat} {G : List Nat} (h : Ch P n L G) (hq : ∀ g ∈ G, Q g = P g) (hm : n ≤ m) : Ch Q m L G := by
  induction h with
  | nil => exact .nil
  | @cons g G h2 hn hf h ih =>
    have e := hq g (by simp)
    have := ih (fun g hg => hq g (by simp [hg]))
    rw [← e] at this hf
    exact .cons h2 (by omega) hf this
theorem Ch.lift {P : Nat → List UInt8} {n L k : Nat} {G : List Nat} (h : Ch P n L G) (hk : k ∉ G) : ∀ f last, liftR P n k f L last = none := by
  induction h with
  | nil =>
    intro f last
    cases f with
    | zero => rfl
    | succ f => rw [liftR, if_neg (by omega)]
  | @cons g G h2 hn hf h ih =>
    intro f last
    cases f with
    | zero => rfl
    | succ f =>
      rw [liftR, if_pos ⟨h2, hn, hf⟩, if_neg (fun e => hk (by simp [e]))]
      exact ih (fun hm => hk (by simp [hm])) f g
theorem Ch.free {P : Nat → List UInt8} {n L : Nat} {G : List Nat} (h : Ch P n L G) : ∀ f, G.length ≤ f → freeR P n f L = some G := by
  induction h with
  | nil => intro f _; exact freeR_end
  | @cons g G h2 hn hf h ih =>
    intro f hl
    cases f with
    | zero => simp at hl
    | succ f =>
      rw [freeR, if_neg (by omega), if_pos ⟨h2, hn, hf⟩, ih f (by simpa using hl)]
      rfl
theorem upP_at (P : Nat → List UInt8) (k : Nat) (l : List UInt8) : upP P k l k = l := by simp [upP]
theorem upP_off (P : Nat → List UInt8) {k g : Nat} (l : List UInt8) (h : g ≠ k) : upP P k l g = P g := by simp [upP, h]
theorem linkV_freeL (L : Nat) (hL : L < 4294967296) : linkV (freeL L) = L := by
  obtain ⟨h1, h2, h3, h4, h5, _⟩ := page_facts 0 L 0 noS (by omega) hL (fun i hi => by omega) (by simp [cat])
  exact (if_pos h1).trans h4
theorem isFree_freeL (L : Nat) (hL : L < 4294967296) : isFree (freeL L) = true := by
  unfold isFree
  rw [linkV_freeL L hL]
  simp
/-- A page is given. -/
theorem Ch.give {P : Nat → List UInt8} {n L k : Nat} {G : List Nat} {N : Nat → Nat} (h : Ch P n L G) (hL : L < 4294967296) (h2 : 2 ≤ k) (hn : k ≤ n) (hk : k ∉ G) : lfR P n k L = none ∧ Ch (gvP P n k L N) n k (k :: G) := by
  have hr : lfR P n k L = none := by
    unfold lfR
    split
    · exact h.lift hk _ _
    · rfl
  refine ⟨hr, ?_⟩
  unfold gvP
  rw [hr]
  have e : upP (upP (lfP P none) k (freeL (lfL L none))) 1 (firstL k N) k = freeL L := by rw [upP_off _ _ (by omega), upP_at]; rfl
  refine .cons h2 hn (by rw [e]; exact isFree_freeL L hL) ?_
  rw [e, linkV_freeL L hL]
  exact h.same (fun g hg => by rw [upP_off _ _ (by have := h.all g hg; omega), upP_off _ _ (fun (q : g = k) => hk (by rw [← q]; exact hg))]; rfl) (Nat.le_refl _)
/-- A free page is taken. -/
theorem Ch.take {P : Nat → List UInt8} {n g : Nat} {G : List Nat} (h : Ch P n g (g :: G)) (l : List UInt8) : 2 ≤ g ∧ g ≤ n ∧ isFree (P g) = true ∧ Ch (upP P 1 l) n (linkV (P g)) G := by
  cases h with
  | cons h2 hn hf h => exact ⟨h2, hn, hf, h.same (fun q hq => upP_off _ _ (by have := h.all q hq; omega)) (Nat.le_refl _)⟩
end Go.Proofs.YtenfjbcigkolaaaGreat
