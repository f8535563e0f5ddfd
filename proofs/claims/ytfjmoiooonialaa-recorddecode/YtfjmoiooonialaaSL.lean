/- A record of 0 in a byte is none: the row. -/
import Derived.Test.YtfjmoiooonialaaSJ
namespace Go.Proofs.Ytfjmoiooonialaa
open Go.ChangeShapes Go.WideShapes Go.ChangeAt Go.RowKit
set_option linter.unusedVariables false

theorem set_cell {X : World} {b i : Nat} {u : Value} (h : X.cell? ⟨b, i, none⟩ = some u) (v : Value) : (X.setCell ⟨b, i, none⟩ v).cell? ⟨b, i, none⟩ = some v := by
  first | exact World.cell?_setCell_same h v | exact World.cell?_setCell_same _ _ _ h | simp [World.cell?_setCell_same, h]

set_option maxHeartbeats 1000000 in
set_option maxRecDepth 10000 in
theorem readRow_bad (p : Nat) (w : World) (hp : p < w.heap.size) (hc : w.cell? ⟨p, 0, none⟩ = some (.string ⟨#[1, 1, 0]⟩)) (hf : w.frozen? ⟨p, 0, none⟩ = false) : Calls Try.prog 29 #[varF p, takeF p] w fun e w' => e = .panicked badP ∧ Below p w w' := by
  have HV1 : Hid (∀ V, V.cell? ⟨p, 0, none⟩ = some (.string ⟨#[1, 1, 0]⟩) → V.frozen? ⟨p, 0, none⟩ = false → Calls Try.prog 30 #[.pointer (some ⟨p, 0, none⟩)] V fun e w' => e = .returned (.int .u64 1) ∧ w' = V.setCell ⟨p, 0, none⟩ (.string ⟨#[1, 0]⟩)) := fun V h1 h2 => rvar_walk p ⟨#[1, 1, 0]⟩ 1 1 (by decide) (by decide) (by decide) (by decide) (by decide) V h1 h2
  have HV2 : Hid (∀ V, V.cell? ⟨p, 0, none⟩ = some (.string ⟨#[1, 0]⟩) → V.frozen? ⟨p, 0, none⟩ = false → Calls Try.prog 30 #[.pointer (some ⟨p, 0, none⟩)] V fun e w' => e = .returned (.int .u64 1) ∧ w' = V.setCell ⟨p, 0, none⟩ (.string ⟨#[0]⟩)) := fun V h1 h2 => rvar_walk p ⟨#[1, 0]⟩ 1 1 (by decide) (by decide) (by decide) (by decide) (by decide) V h1 h2
  have hk1 : ∀ V : World, (Instr.makeSlice 59 (.int .u64 1) (.int .u64 1)).run Try.prog V = .ok (.slice (some ⟨V.heap.size, 0, none⟩) 1 1) (V.alloc (.cells #[.int .u64 0] 22)) := fun V => by kernel_rfl
  have hk2 : ∀ V : World, (Instr.makeSlice 31 (.int .u64 1) (.int .u64 1)).run Try.prog V = .ok (.slice (some ⟨V.heap.size, 0, none⟩) 1 1) (V.alloc nilv) := fun V => by kernel_rfl
  go_enter Try.func29, Try.ntmps29
  go_wp2_with (first
    | (go_at_call 30; with_reducible refine Calls.mono (HV1.out _ hc hf) ?_; rintro e w1 ⟨rfl, rfl⟩)
    | (go_at_call 28; with_reducible refine Calls.mono (must_yes _) ?_; rintro e w5 ⟨rfl, rfl⟩))
  go_name_world X1 hX1
  have k0 : X1.heap[w.heap.size]? = some (.cells #[.int .u64 0] 22) := by
    rw [← hX1]
    have := blk_new (w.setCell ⟨p, 0, none⟩ (.string ⟨#[1, 0]⟩)) (.cells #[.int .u64 0] 22)
    simpa using this
  have hw0 : (w.setCell ⟨p, 0, none⟩ (.string ⟨#[1, 0]⟩)).cell? ⟨p, 0, none⟩ = some (.string ⟨#[1, 0]⟩) := set_cell hc _
  have c1 : X1.cell? ⟨p, 0, none⟩ = some (.string ⟨#[1, 0]⟩) := by
    rw [← hX1]
    exact cell_alloc hw0 _
  have f1 : X1.frozen? ⟨p, 0, none⟩ = false := by
    rw [← hX1]
    exact frozen_alloc1 (by simpa using hp) (by simp [hf]) _
  have B1 : Hid (Below p w X1) := by
    rw [← hX1]
    exact ((Below.refl p w).setCell (Nat.le_refl _) _).alloc (Nat.le_of_lt (by simpa using hp)) _
  have s1 : X1.heap.size = w.heap.size + 1 := by rw [← hX1]; simp
  clear hw0 hX1
  have g0 : (X1.setCell ⟨p, 0, none⟩ (.string ⟨#[0]⟩)).heap[w.heap.size]? = some (.cells #[.int .u64 0] 22) := by
    rw [Below.heap_setCell _ _ _ _ (by simp; omega)]; exact k0
  have g1 : (X1.setCell ⟨p, 0, none⟩ (.string ⟨#[0]⟩)).cell? ⟨w.heap.size, 0, none⟩ = some (.int .u64 0) := block_cell g0 0
  have g2 : (X1.setCell ⟨p, 0, none⟩ (.string ⟨#[0]⟩)).frozen? ⟨w.heap.size, 0, none⟩ = false := block_frozen g0 0
  refine wp_loop_rounds 2 ?_
  rw [rounds_succ]
  go_wp2_with (first
    | (go_at_call 30; with_reducible refine Calls.mono (HV2.out _ c1 f1) ?_; rintro e w1 ⟨rfl, rfl⟩))
  rw [rounds_succ]
  go_wp2_with fail
  go_name_world X3 hX3
  obtain ⟨X2, hX2⟩ : ∃ X, (X1.setCell ⟨p, 0, none⟩ (.string ⟨#[0]⟩)).setCell ⟨w.heap.size, 0, none⟩ (.int .u64 1) = X := ⟨_, rfl⟩
  rw [hX2] at hX3
  have z2 : X2.heap.size = w.heap.size + 1 := by rw [← hX2]; simp [s1]
  have t2 : X2.heap[w.heap.size]? = some (.cells #[.int .u64 1] 22) := by
    rw [← hX2]
    exact set_block g0 0 _
  have pf : X2.heap[p]? = (X1.setCell ⟨p, 0, none⟩ (.string ⟨#[0]⟩)).heap[p]? := by
    rw [← hX2]
    exact Below.heap_setCell _ _ _ _ (by show p ≠ w.heap.size; omega)
  have c2 : X2.cell? ⟨p, 0, none⟩ = some (.string ⟨#[0]⟩) := by
    rw [World.cell?_of_block (w := X1.setCell ⟨p, 0, none⟩ (.string ⟨#[0]⟩)) pf]
    exact set_cell c1 _
  have f2 : X2.frozen? ⟨p, 0, none⟩ = false := by
    have h : (X1.setCell ⟨p, 0, none⟩ (.string ⟨#[0]⟩)).frozen? ⟨p, 0, none⟩ = false := by simp [f1]
    unfold World.frozen? at h ⊢
    simp only [pf]
    exact h
  have B2 : Hid (Below p w X2) := by
    rw [← hX2]
    exact (B1.out.setCell (Nat.le_refl _) _).setCell (Nat.le_of_lt hp) _
  have c3 : X3.cell? ⟨p, 0, none⟩ = some (.string ⟨#[0]⟩) := by rw [← hX3]; exact cell_alloc c2 _
  have f3 : X3.frozen? ⟨p, 0, none⟩ = false := by rw [← hX3]; exact frozen_alloc1 (by omega) f2 _
  have t3 : X3.cell? ⟨w.heap.size, 0, none⟩ = some (.int .u64 1) := by rw [← hX3]; exact cell_alloc (block_cell t2 0) _
  have B3 : Hid (Below p w X3) := by rw [← hX3]; exact B2.out.alloc (by omega) _
  have p3 : p < X3.heap.size := by rw [← hX3]; simp; omega
  have HRV := hide (readValue_bad p X3 p3 c3 f3)
  clear hX3 hX2 z2 t2 pf c2 f2 p3 c3 f3 k0 c1 f1 s1 g0 g1 g2 hc hf hk1 hk2
  refine wp_loop_rounds 2 ?_
  rw [rounds_succ]
  go_wp2_with (first
    | (go_at_call 38; with_reducible refine Calls.mono HRV.out ?_; rintro e w9 ⟨rfl, hb9⟩; have X9 := hide hb9; clear hb9))
  have hB : Below p w w9 := B3.out.trans (X9.out.mono (Nat.le_refl _))
  first | exact ⟨rfl, hB⟩ | (simp [bodyPost]; exact hB)
end Go.Proofs.Ytfjmoiooonialaa
