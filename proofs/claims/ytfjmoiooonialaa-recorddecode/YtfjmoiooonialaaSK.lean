/- Decode of a record that is none. -/
import Derived.Test.YtfjmoiooonialaaSL
import Derived.Laws.Pointers
namespace Go.Proofs.Ytfjmoiooonialaa
open Go.ChangeShapes Go.WideShapes Go.ChangeAt Go.RowKit
set_option linter.unusedVariables false

theorem catch_bad (b1 b2 : Nat) (x : Value) (y : Value) (u : TypeId) (pv : Value) (older : List PanicEntry) (w : World) (hne : b1 ≠ b2) (h1 : w.cell? ⟨b1, 0, none⟩ = some x) (h2 : w.cell? ⟨b2, 0, none⟩ = some y) (f1 : w.frozen? ⟨b1, 0, none⟩ = false) (f2 : w.frozen? ⟨b2, 0, none⟩ = false) (h3 : (w.setCell ⟨b1, 0, none⟩ (.slice none 0 0)).cell? ⟨b2, 0, none⟩ = some y) :
    CallsD Try.prog 27 #[.pointer (some ⟨b1, 0, none⟩), .pointer (some ⟨b2, 0, none⟩)] (.panicking ({ v := .iface u pv, recovered := false } :: older)) w fun e u' w' =>
      e = .returned (.tuple #[]) ∧ u' = .panicking ({ v := .iface u pv, recovered := true } :: older) ∧ w' = (w.setCell ⟨b1, 0, none⟩ (.slice none 0 0)).setCell ⟨b2, 0, none⟩ (.int .i64 8) := by
  refine callsD_of_wpS Try.func27 rfl fun c₀ cs hu => ?_
  apply wpS_seq
  apply wpS_region
  simp [wpOpsS, go_sem, recoverD, hu, Try.ntmps27, Exit.thenS]
  refine wpS_cond (t := true) (by simp [Act.eval, Array.replicate]) ?_
  simp only [if_true]
  apply wpS_region
  simp [wpOpsS, go_sem, h1, h3, f1, f2, bodyPostS, results, Try.results27]

set_option maxHeartbeats 1000000 in
set_option maxRecDepth 10000 in
theorem decode_bad (w : World) : Calls Try.prog 16 #[.string ⟨#[1, 1, 0]⟩] w fun e w' => e = .returned (.tuple #[.slice none 0 0, .int .i64 8]) ∧ Below w.heap.size w w' := by
  have hmf : ∀ (fn : Fn) (first cap : Array Value) (w : World), (Instr.makeFunc fn first cap).run Try.prog w = .ok (.func fn first cap) w := fun _ _ _ _ => rfl
  obtain ⟨W, hW⟩ : ∃ W, (((w.alloc (.cells #[.slice none 0 0] 31)).alloc (.cells #[.int .i64 0] 23)).alloc (.cells #[.string ⟨#[1, 1, 0]⟩] 55)) = W := ⟨_, rfl⟩
  have k0 : W.heap[w.heap.size]? = some (.cells #[.slice none 0 0] 31) := by
    rw [← hW, Below.heap_alloc _ _ _ (by simp; omega), Below.heap_alloc _ _ _ (by simp)]
    exact blk_new w _
  have k1 : W.heap[w.heap.size + 1]? = some (.cells #[.int .i64 0] 23) := by
    rw [← hW, Below.heap_alloc _ _ _ (by simp)]
    have := blk_new (w.alloc (.cells #[.slice none 0 0] 31)) (.cells #[.int .i64 0] 23)
    simpa using this
  have k2 : W.heap[w.heap.size + 1 + 1]? = some (.cells #[.string ⟨#[1, 1, 0]⟩] 55) := by
    rw [← hW]
    have := blk_new ((w.alloc (.cells #[.slice none 0 0] 31)).alloc (.cells #[.int .i64 0] 23)) (.cells #[.string ⟨#[1, 1, 0]⟩] 55)
    simpa using this
  have sz : W.heap.size = w.heap.size + 1 + 1 + 1 := by rw [← hW]; simp
  have BW : Hid (Below w.heap.size w W) := by rw [← hW]; exact bl_alloc1 (bl_alloc1 (new_below w _ rfl) _) _
  have HRR := hide (readRow_bad (w.heap.size + 1 + 1) W (by omega) (block_cell k2 0) (block_frozen k2 0))
  have HK := hide (And.intro k0 k1)
  clear k0 k1 k2 sz
  go_enter_defers Try.func16, Try.ntmps16
  go_wp2_with (first
    | (go_at_call 28; with_reducible refine Calls.mono (must_yes _) ?_; rintro e w2 ⟨rfl, rfl⟩)
    | (go_at_call 29; with_reducible refine Calls.mono HRR.out ?_; rintro e w3 ⟨rfl, hb3⟩; have X3 := hide hb3; clear hb3))
  have z0 : w3.heap[w.heap.size]? = some (.cells #[.slice none 0 0] 31) := (X3.out.block _ (by omega)).trans HK.out.1
  have z1 : w3.heap[w.heap.size + 1]? = some (.cells #[.int .i64 0] 23) := (X3.out.block _ (by omega)).trans HK.out.2
  have c0 : w3.cell? ⟨w.heap.size, 0, none⟩ = some (.slice none 0 0) := block_cell z0 0
  have c1 : w3.cell? ⟨w.heap.size + 1, 0, none⟩ = some (.int .i64 0) := block_cell z1 0
  have z2 : (w3.setCell ⟨w.heap.size, 0, none⟩ (.slice none 0 0)).heap[w.heap.size + 1]? = some (.cells #[.int .i64 0] 23) := by
    rw [Below.heap_setCell _ _ _ _ (by simp)]; exact z1
  have z3 : ((w3.setCell ⟨w.heap.size, 0, none⟩ (.slice none 0 0)).setCell ⟨w.heap.size + 1, 0, none⟩ (.int .i64 8)).heap[w.heap.size]? = some (.cells #[.slice none 0 0] 31) := by
    rw [Below.heap_setCell _ _ _ _ (by simp)]; exact set_block z0 0 _
  have z4 : ((w3.setCell ⟨w.heap.size, 0, none⟩ (.slice none 0 0)).setCell ⟨w.heap.size + 1, 0, none⟩ (.int .i64 8)).heap[w.heap.size + 1]? = some (.cells #[.int .i64 8] 23) := set_block z2 0 _
  have y0 : ((w3.setCell ⟨w.heap.size, 0, none⟩ (.slice none 0 0)).setCell ⟨w.heap.size + 1, 0, none⟩ (.int .i64 8)).cell? ⟨w.heap.size, 0, none⟩ = some (.slice none 0 0) := block_cell z3 0
  have y1 : ((w3.setCell ⟨w.heap.size, 0, none⟩ (.slice none 0 0)).setCell ⟨w.heap.size + 1, 0, none⟩ (.int .i64 8)).cell? ⟨w.heap.size + 1, 0, none⟩ = some (.int .i64 8) := block_cell z4 0
  have hB : Below w.heap.size w ((w3.setCell ⟨w.heap.size, 0, none⟩ (.slice none 0 0)).setCell ⟨w.heap.size + 1, 0, none⟩ (.int .i64 8)) :=
    ((BW.out.trans (X3.out.mono (by omega))).setCell (Nat.le_refl _) _).setCell (Nat.le_succ _) _
  refine leaves_cons (f := 27) (args := #[.pointer (some ⟨w.heap.size, 0, none⟩), .pointer (some ⟨w.heap.size + 1, 0, none⟩)]) (by simp) (by simp [go_sem]) ?_
  refine (catch_bad w.heap.size (w.heap.size + 1) _ _ 23 _ [] w3 (by omega) c0 c1 (block_frozen z0 0) (block_frozen z1 0) (block_cell z2 0)).mono ?_
  rintro e u' w'' ⟨rfl, rfl, rfl⟩
  simp [Leaves, settle, results, Try.results16, go_sem, y0, y1]
  exact hB
end Go.Proofs.Ytfjmoiooonialaa
