/- A record of 0 in a byte is none. -/
import Derived.Test.YtfjmoiooonialaaSI
namespace Go.Proofs.Ytfjmoiooonialaa
open Go.ChangeShapes Go.WideShapes Go.ChangeAt Go.RowKit
set_option linter.unusedVariables false

abbrev val (k n : Int) (t : ByteArray) : Value := .agg #[.int .i64 k, .int .i64 n, .string t]
abbrev takeF (p : Nat) : Value := .func (.func 31) #[.pointer (some ⟨p, 0, none⟩)] #[]
abbrev varF (p : Nat) : Value := .func (.func 30) #[.pointer (some ⟨p, 0, none⟩)] #[]

set_option maxHeartbeats 1000000 in
theorem typeOf_zero (w : World) : Calls Try.prog 23 #[val 1 0 ⟨#[]⟩] w fun e w' => e = .returned (.int .u64 9) ∧ Below w.heap.size w w' := by
  go_enter Try.func23, Try.ntmps23
  go_wp2
  go_ret
  exact ⟨rfl, by go_grown⟩
set_option maxHeartbeats 1000000 in
theorem integer_zero (w : World) : Calls Try.prog 41 #[.string ⟨#[0]⟩] w fun e w' => e = .returned (.int .i64 0) ∧ w = w' := by
  go_enter Try.func41, Try.ntmps41
  go_wp2
  refine wp_loop_rounds 1 ?_
  rw [rounds_succ]
  go_wp2
  go_ret
  exact ⟨by kernel_rfl, rfl⟩
theorem vint_walk (n : Int) (w : World) : Calls Try.prog 39 #[.int .i64 n] w fun e w' => e = .returned (val 1 n ⟨#[]⟩) ∧ Below w.heap.size w w' := by
  go_enter Try.func39, Try.ntmps39
  go_wp2
  go_returns
  exact ⟨rfl, by go_grown⟩

theorem cell_alloc {V : World} {a : Addr} {v : Value} (h : V.cell? a = some v) (o : Obj) : (V.alloc o).cell? a = some v := cell_later (new_below V o rfl) h

theorem frozen_alloc1 {V : World} {b i : Nat} (hb : b < V.heap.size) (h : V.frozen? ⟨b, i, none⟩ = false) (o : Obj) : (V.alloc o).frozen? ⟨b, i, none⟩ = false := by
  have e : (V.alloc o).heap[b]? = V.heap[b]? := Below.heap_alloc _ _ _ hb
  unfold World.frozen? at h ⊢
  simp only [e]
  exact h
theorem res_facts {w : World} {b : Nat} {x y z : Value} {T : TypeId} (h : w.heap[b]? = some (.cells #[x, y, z] T (0, 0))) :
    w.cell? ⟨b, 0, none⟩ = some x ∧ w.cell? ⟨b, 1, none⟩ = some y ∧ w.cell? ⟨b, 2, none⟩ = some z ∧ w.frozen? ⟨b, 0, none⟩ = false ∧ w.frozen? ⟨b, 1, none⟩ = false ∧ w.frozen? ⟨b, 2, none⟩ = false :=
  ⟨by rw [block_cell h]; rfl, by rw [block_cell h]; rfl, by rw [block_cell h]; rfl, block_frozen h 0, block_frozen h 1, block_frozen h 2⟩
theorem blk_new (V : World) (o : Obj) : (V.alloc o).heap[V.heap.size]? = some o := by
  show (V.heap.push _)[V.heap.size]? = _
  simp
abbrev nilv : Obj := .cells #[.int .i64 0, .int .i64 0, .string ⟨#[]⟩] 46
/-- A new value's block, behind a store into an older one and a call. -/
theorem behind {w w3 : World} {p : Nat} {v : Value} (hp : p < w.heap.size) (hb : Below ((w.alloc nilv).setCell ⟨p, 0, none⟩ v).heap.size ((w.alloc nilv).setCell ⟨p, 0, none⟩ v) w3) : w3.heap[w.heap.size]? = some nilv := by
  rw [hb.block _ (by simp), Below.heap_setCell _ _ _ _ (by simp; omega)]
  exact blk_new w nilv
theorem behindB {w w3 : World} {p : Nat} {v : Value} (hp : p < w.heap.size) (hb : Below ((w.alloc nilv).setCell ⟨p, 0, none⟩ v).heap.size ((w.alloc nilv).setCell ⟨p, 0, none⟩ v) w3) : Below p w w3 :=
  (((Below.refl p w).alloc (by omega) nilv).setCell (Nat.le_refl _) v).trans (hb.mono (by simp; omega))

set_option maxHeartbeats 1000000 in
set_option maxRecDepth 10000 in
theorem readValue_bad (p : Nat) (w : World) (hp : p < w.heap.size) (hc : w.cell? ⟨p, 0, none⟩ = some (.string ⟨#[0]⟩)) (hf : w.frozen? ⟨p, 0, none⟩ = false) : Calls Try.prog 38 #[.int .u64 1, takeF p] w fun e w' => e = .panicked badP ∧ Below p w w' := by
  have HT : Hid (∀ V, V.cell? ⟨p, 0, none⟩ = some (.string ⟨#[0]⟩) → V.frozen? ⟨p, 0, none⟩ = false → Calls Try.prog 31 #[.pointer (some ⟨p, 0, none⟩), .int .i64 1] V fun e w' => e = .returned (.string ⟨#[0]⟩) ∧ w' = V.setCell ⟨p, 0, none⟩ (.string ⟨#[]⟩)) := fun V h1 h2 => take_walk p ⟨#[0]⟩ 1 (by decide) (by decide) V h1 h2
  have HP := hide hp
  have HC : Hid ((w.alloc nilv).cell? ⟨p, 0, none⟩ = some (.string ⟨#[0]⟩)) := cell_alloc hc _
  have HF : Hid ((w.alloc nilv).frozen? ⟨p, 0, none⟩ = false) := frozen_alloc1 hp hf _
  clear hp hc hf
  go_enter Try.func38, Try.ntmps38
  go_wp2_with (first
    | (go_at_call 31; with_reducible refine Calls.mono (HT.out _ HC.out HF.out) ?_; rintro e w1 ⟨rfl, rfl⟩)
    | (go_at_call 41; with_reducible refine Calls.mono (integer_zero _) ?_; rintro e w2 ⟨rfl, rfl⟩)
    | (go_at_call 39; with_reducible refine Calls.mono (vint_walk _ _) ?_; rintro e w3 ⟨rfl, hb3⟩; have K3 := hide (behind HP.out hb3); have B3 := hide (behindB HP.out hb3); obtain ⟨d0, d1, d2, f0, f1, f2⟩ := res_facts K3.out; clear hb3)
    | (go_at_call 23; with_reducible refine Calls.mono (typeOf_zero _) ?_; rintro e w4 ⟨rfl, hb4⟩; have X4 := hide hb4; clear hb4)
    | (go_at_call 28; with_reducible refine Calls.mono (must_no _) ?_; rintro e w5 ⟨rfl, rfl⟩))
  have hB : Below p w w4 := (((B3.out.setCell (Nat.le_of_lt HP.out) _).setCell (Nat.le_of_lt HP.out) _).setCell (Nat.le_of_lt HP.out) _).trans (X4.out.mono (by
    have h1 := B3.out.size
    have h2 := HP.out
    simp
    omega))
  first | exact ⟨rfl, hB⟩ | (simp [bodyPost]; exact hB)
end Go.Proofs.Ytfjmoiooonialaa
