/- Package token's Print, as the laws' walks ask it. -/
import Derived.Test.YtkooijhdjjdigaaDoorCZ
namespace Go.Proofs.YtkooijhdjjdigaaDoor
open Go.ChangeShapes Go.WideShapes Go.ChangeAt Go.RowKit
set_option linter.unusedVariables false

theorem wrP_len (k : Int) (t : List UInt8) : (wrP k t).length ≤ 2 * t.length + 3 := by
  unfold wrP bare
  split
  · have := esc_length t; simp; omega
  split
  · have := hexs_length t; simp; omega
  split
  · simp; omega
  · omega
theorem joinW_sum : ∀ (ws : List (List UInt8)) (B : Nat), (∀ x ∈ ws, x.length ≤ B) → (joinW ws).length ≤ ws.length * (B + 1)
  | [], B, _ => by simp [joinW]
  | w :: ws, B, h => by
    have h1 := joinW_len w ws
    have h2 := joinW_sum ws B (fun x hx => h x (by simp [hx]))
    have h3 := h w (by simp)
    rw [List.length_cons, Nat.add_mul, Nat.one_mul]
    omega
theorem code_print (l : List Tg) (hl : l.length ≤ 1048576) (hx : ∀ x ∈ l, x.t.length ≤ 1048576) : PrintOk l := fun V v hE hv => by
  refine print_e l (by omega) (fun x h => Nat.le_trans (hx x h) (by decide)) ?_ v V hE hv
  have h := joinW_sum ((List.range l.length).map (wrI l)) 2097155 (fun y hy => by
    obtain ⟨i, hi, rfl⟩ := List.mem_map.1 hy
    obtain ⟨x, hx1, -⟩ := get_some (l := l) (i := i) (List.mem_range.1 hi)
    rw [wrI_get hx1]
    have h1 := wrP_len x.k x.t
    have h2 := hx x (List.mem_of_getElem? hx1)
    omega)
  rw [List.length_map, List.length_range] at h
  refine Nat.le_trans h ?_
  refine Nat.le_trans (Nat.mul_le_mul_right _ hl) (by decide)
end Go.Proofs.YtkooijhdjjdigaaDoor
