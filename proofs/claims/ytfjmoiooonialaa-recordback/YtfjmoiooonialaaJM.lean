/- Plain: what Encode writes is what the list of a row is written as. -/
import Derived.Test.YtfjmoiooonialaaJL
import Derived.Test.YtfjmoiooonialaaFF
namespace Go.Proofs.Ytfjmoiooonialaa
open Go.ChangeShapes Go.WideShapes Go.ChangeAt Go.RowKit
set_option linter.unusedVariables false

theorem typL_puts (K N : Nat → Int) (T : Nat → ByteArray) (m : Nat) : typL K N T m = putsL ((rowV m K N T).map tyV) := by
  induction m with
  | zero => rfl
  | succ m ih => rw [typL, rowV_succ, List.map_append, List.map_cons, List.map_nil, putsL_snoc, ih]; rfl
theorem bodL_bds (K N : Nat → Int) (T : Nat → ByteArray) (m : Nat) : bodL K N T m = bdsL (rowV m K N T) := by
  induction m with
  | zero => rfl
  | succ m ih => rw [bodL, rowV_succ, bdsL_snoc, ih]; rfl
theorem encL_encV (len : Nat) (K N : Nat → Int) (T : Nat → ByteArray) : encL len K N T = encV (rowV len K N T) := by
  unfold encL encV
  rw [typL_puts, bodL_bds, rowV_length, List.append_assoc]
theorem rowV_ok {len : Nat} {K N : Nat → Int} {T : Nat → ByteArray} : (∀ v ∈ rowV len K N T, okV v) ↔ ∀ i, i < len → mayB (K i) (N i) (T i) = true ∧ InI (N i) := by
  constructor
  · intro h i hi
    exact h (K i, N i, T i) (List.mem_map.2 ⟨i, List.mem_range.2 hi, rfl⟩)
  · intro h v hv
    obtain ⟨i, hi, rfl⟩ := List.mem_map.1 hv
    exact h i (List.mem_range.1 hi)
end Go.Proofs.Ytfjmoiooonialaa
