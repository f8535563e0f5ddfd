/- Decode of any text. -/
import Derived.Test.YtfjmoiooonialaaJO
import Derived.Test.YtfjmoiooonialaaSK
namespace Go.Proofs.Ytfjmoiooonialaa
open Go.ChangeShapes Go.WideShapes Go.ChangeAt Go.RowKit
set_option linter.unusedVariables false

set_option maxHeartbeats 1000000 in
set_option maxRecDepth 10000 in
/-- What gives up is recovered. -/
theorem decode_caught {w w3 : World} {tmps : Array Value} {v : Value} (ht2 : tmps.getD 2 undef = .pointer (some ⟨w.heap.size, 0, none⟩)) (ht3 : tmps.getD 3 undef = .pointer (some ⟨w.heap.size + 1, 0, none⟩))
    (z0 : w3.heap[w.heap.size]? = some (.cells #[v] 31)) (z1 : w3.heap[w.heap.size + 1]? = some (.cells #[.int .i64 0] 23)) (hb : Below w.heap.size w w3) :
    bodyPostD Try.prog Try.f16 (fun e w' => e = .returned (.tuple #[.slice none 0 0, .int .i64 8]) ∧ Below w.heap.size w w') (Exit.panic badP)
      { tmps := tmps, defers := [{ target := .fn (.func 27) #[.pointer (some ⟨w.heap.size, 0, none⟩), .pointer (some ⟨w.heap.size + 1, 0, none⟩)], args := #[] }] } w3 := by
  have c0 : w3.cell? ⟨w.heap.size, 0, none⟩ = some v := block_cell z0 0
  have c1 : w3.cell? ⟨w.heap.size + 1, 0, none⟩ = some (.int .i64 0) := block_cell z1 0
  have z2 : (w3.setCell ⟨w.heap.size, 0, none⟩ (.slice none 0 0)).heap[w.heap.size + 1]? = some (.cells #[.int .i64 0] 23) := by
    rw [Below.heap_setCell _ _ _ _ (by simp)]; exact z1
  have z3 : ((w3.setCell ⟨w.heap.size, 0, none⟩ (.slice none 0 0)).setCell ⟨w.heap.size + 1, 0, none⟩ (.int .i64 8)).heap[w.heap.size]? = some (.cells #[.slice none 0 0] 31) := by
    rw [Below.heap_setCell _ _ _ _ (by simp)]; exact set_block z0 0 _
  have z4 : ((w3.setCell ⟨w.heap.size, 0, none⟩ (.slice none 0 0)).setCell ⟨w.heap.size + 1, 0, none⟩ (.int .i64 8)).heap[w.heap.size + 1]? = some (.cells #[.int .i64 8] 23) := set_block z2 0 _
  have y0 : ((w3.setCell ⟨w.heap.size, 0, none⟩ (.slice none 0 0)).setCell ⟨w.heap.size + 1, 0, none⟩ (.int .i64 8)).cell? ⟨w.heap.size, 0, none⟩ = some (.slice none 0 0) := block_cell z3 0
  have y1 : ((w3.setCell ⟨w.heap.size, 0, none⟩ (.slice none 0 0)).setCell ⟨w.heap.size + 1, 0, none⟩ (.int .i64 8)).cell? ⟨w.heap.size + 1, 0, none⟩ = some (.int .i64 8) := block_cell z4 0
  have hB : Below w.heap.size w ((w3.setCell ⟨w.heap.size, 0, none⟩ (.slice none 0 0)).setCell ⟨w.heap.size + 1, 0, none⟩ (.int .i64 8)) :=
    (hb.setCell (Nat.le_refl _) _).setCell (Nat.le_succ _) _
  refine leaves_cons (f := 27) (args := #[.pointer (some ⟨w.heap.size, 0, none⟩), .pointer (some ⟨w.heap.size + 1, 0, none⟩)]) (by simp) (by simp [go_sem]) ?_
  refine (catch_bad w.heap.size (w.heap.size + 1) _ _ 23 _ [] w3 (by omega) c0 c1 (block_frozen z0 0) (block_frozen z1 0) (block_cell z2 0)).mono ?_
  rintro e u' w'' ⟨rfl, rfl, rfl⟩
  have t2 : tmps[2]?.getD undef = .pointer (some ⟨w.heap.size, 0, none⟩) := by rw [← Array.getD_eq_getD_getElem?]; exact ht2
  have t3 : tmps[3]?.getD undef = .pointer (some ⟨w.heap.size + 1, 0, none⟩) := by rw [← Array.getD_eq_getD_getElem?]; exact ht3
  simp [Leaves, settle, results, Try.results16, go_sem, y0, y1, t2, t3]
  exact hB

set_option maxHeartbeats 1000000 in
set_option maxRecDepth 10000 in
theorem decode_long (l : List UInt8) (hl : 4000 < l.length) (w : World) : Calls Try.prog 16 #[.string ⟨l.toArray⟩] w fun e w' => e = .returned (.tuple #[.slice none 0 0, .int .i64 8]) ∧ Below w.heap.size w w' := by
  have hmf : ∀ (fn : Fn) (first cap : Array Value) (w : World), (Instr.makeFunc fn first cap).run Try.prog w = .ok (.func fn first cap) w := fun _ _ _ _ => rfl
  have g4 : decide ((l.length : Int) ≤ 4000) = false := by simp; omega
  have hz := szL l
  obtain ⟨S, hS⟩ : ∃ S : ByteArray, (⟨l.toArray⟩ : ByteArray) = S := ⟨_, rfl⟩
  rw [hS] at hz
  rw [hS]
  clear hS
  go_enter_defers Try.func16, Try.ntmps16
  go_wp2_with (first
    | (go_at_call 28; with_reducible refine Calls.mono (must_no _) ?_; rintro e w2 ⟨rfl, rfl⟩))
  refine decode_caught (v := .slice none 0 0) rfl rfl ?_ ?_ (bl_alloc1 (new_below w _ rfl) _)
  · rw [Below.heap_alloc _ _ _ (by simp)]
    exact blk_new w _
  · have := blk_new (w.alloc (.cells #[.slice none 0 0] 31)) (.cells #[.int .i64 0] 23)
    simpa using this

set_option maxHeartbeats 2000000 in
set_option maxRecDepth 10000 in
theorem decode_none (l : List UInt8) (hl : ¬ 4000 < l.length) (hno : rowRd l = none) (w : World) : Calls Try.prog 16 #[.string ⟨l.toArray⟩] w fun e w' => e = .returned (.tuple #[.slice none 0 0, .int .i64 8]) ∧ Below w.heap.size w w' := by
  have hmf : ∀ (fn : Fn) (first cap : Array Value) (w : World), (Instr.makeFunc fn first cap).run Try.prog w = .ok (.func fn first cap) w := fun _ _ _ _ => rfl
  have l4 : (l.length : Int) ≤ 4000 := by omega
  have hz := szL l
  obtain ⟨W, hW⟩ : ∃ W, (((w.alloc (.cells #[.slice none 0 0] 31)).alloc (.cells #[.int .i64 0] 23)).alloc (.cells #[.string ⟨l.toArray⟩] 55)) = W := ⟨_, rfl⟩
  have k0 : W.heap[w.heap.size]? = some (.cells #[.slice none 0 0] 31) := by
    rw [← hW, Below.heap_alloc _ _ _ (by simp; omega), Below.heap_alloc _ _ _ (by simp)]
    exact blk_new w _
  have k1 : W.heap[w.heap.size + 1]? = some (.cells #[.int .i64 0] 23) := by
    rw [← hW, Below.heap_alloc _ _ _ (by simp)]
    have := blk_new (w.alloc (.cells #[.slice none 0 0] 31)) (.cells #[.int .i64 0] 23)
    simpa using this
  have k2 : W.heap[w.heap.size + 1 + 1]? = some (.cells #[.string ⟨l.toArray⟩] 55) := by
    rw [← hW]
    have := blk_new ((w.alloc (.cells #[.slice none 0 0] 31)).alloc (.cells #[.int .i64 0] 23)) (.cells #[.string ⟨l.toArray⟩] 55)
    simpa using this
  have sz : W.heap.size = w.heap.size + 1 + 1 + 1 := by rw [← hW]; simp
  have BW : Hid (Below w.heap.size w W) := by rw [← hW]; exact bl_alloc1 (bl_alloc1 (new_below w _ rfl) _) _
  have HRR := hide ((readRow_any (w.heap.size + 1 + 1) l (by omega) W (by omega) (block_cell k2 0) (block_frozen k2 0)).mono fun e w' h => h.2 hno)
  have HK := hide (And.intro k0 k1)
  obtain ⟨S, hS⟩ : ∃ S : ByteArray, (⟨l.toArray⟩ : ByteArray) = S := ⟨_, rfl⟩
  rw [hS] at hz hW
  rw [hS]
  have HW := hide hW
  clear hS hno hl k0 k1 k2 sz hW
  go_enter_defers Try.func16, Try.ntmps16
  go_wp2_with (first
    | (go_at_call 28; with_reducible refine Calls.mono (must_yes _) ?_; rintro e w2 ⟨rfl, rfl⟩)
    | (go_at_call 29; rw [HW.out]; with_reducible refine Calls.mono HRR.out ?_; rintro e w3 ⟨rfl, hb3⟩; have X3 := hide hb3; clear hb3))
  refine decode_caught (v := .slice none 0 0) rfl rfl ?_ ?_ (BW.out.trans (X3.out.mono (by omega)))
  · exact (X3.out.block _ (by omega)).trans HK.out.1
  · exact (X3.out.block _ (by omega)).trans HK.out.2

theorem catch_ok (b1 b2 : Nat) (w : World) : CallsD Try.prog 27 #[.pointer (some ⟨b1, 0, none⟩), .pointer (some ⟨b2, 0, none⟩)] .returning w fun e u' w' =>
      e = .returned (.tuple #[]) ∧ u' = .returning ∧ w' = w := by
  refine callsD_of_wpS Try.func27 rfl fun c₀ cs hu => ?_
  apply wpS_seq
  apply wpS_region
  simp [wpOpsS, go_sem, recoverD, hu, Try.ntmps27, Exit.thenS]
  refine wpS_cond (t := false) (by simp [Act.eval, Array.replicate]) ?_
  refine wpS_of_wp ?_
  refine wp_skip ?_
  simp [bodyPostS, results, Try.results27]
  cases c₀
  simp at hu
  simp [hu]
set_option maxHeartbeats 2000000 in
set_option maxRecDepth 10000 in
theorem decode_some (l : List UInt8) (hl : ¬ 4000 < l.length) (vs : List Val3) (r : List UInt8) (hyes : rowRd l = some (vs, r)) (w : World) :
    (r ≠ [] → Calls Try.prog 16 #[.string ⟨l.toArray⟩] w fun e w' => e = .returned (.tuple #[.slice none 0 0, .int .i64 8]) ∧ Below w.heap.size w w') ∧
    (r = [] → Calls Try.prog 16 #[.string ⟨l.toArray⟩] w fun e w' => ∃ g, e = .returned (.tuple #[.slice (some ⟨g, 0, none⟩) vs.length vs.length, .int .i64 0]) ∧ RowAt w' g 0 vs.length (KV vs) (NV vs) (TV vs) ∧ Below w.heap.size w w') := by
  have hmf : ∀ (fn : Fn) (first cap : Array Value) (w : World), (Instr.makeFunc fn first cap).run Try.prog w = .ok (.func fn first cap) w := fun _ _ _ _ => rfl
  have l4 : (l.length : Int) ≤ 4000 := by omega
  have hz := szL l
  obtain ⟨W, hW⟩ : ∃ W, (((w.alloc (.cells #[.slice none 0 0] 31)).alloc (.cells #[.int .i64 0] 23)).alloc (.cells #[.string ⟨l.toArray⟩] 55)) = W := ⟨_, rfl⟩
  have k0 : W.heap[w.heap.size]? = some (.cells #[.slice none 0 0] 31) := by
    rw [← hW, Below.heap_alloc _ _ _ (by simp; omega), Below.heap_alloc _ _ _ (by simp)]
    exact blk_new w _
  have k1 : W.heap[w.heap.size + 1]? = some (.cells #[.int .i64 0] 23) := by
    rw [← hW, Below.heap_alloc _ _ _ (by simp)]
    have := blk_new (w.alloc (.cells #[.slice none 0 0] 31)) (.cells #[.int .i64 0] 23)
    simpa using this
  have k2 : W.heap[w.heap.size + 1 + 1]? = some (.cells #[.string ⟨l.toArray⟩] 55) := by
    rw [← hW]
    have := blk_new ((w.alloc (.cells #[.slice none 0 0] 31)).alloc (.cells #[.int .i64 0] 23)) (.cells #[.string ⟨l.toArray⟩] 55)
    simpa using this
  have sz : W.heap.size = w.heap.size + 1 + 1 + 1 := by rw [← hW]; simp
  have BW : Hid (Below w.heap.size w W) := by rw [← hW]; exact bl_alloc1 (bl_alloc1 (new_below w _ rfl) _) _
  have HRR := hide ((readRow_any (w.heap.size + 1 + 1) l (by omega) W (by omega) (block_cell k2 0) (block_frozen k2 0)).mono fun e w' h => h.1 vs r hyes)
  have HK := hide (And.intro k0 k1)
  have HSz := hide sz
  obtain ⟨S, hS⟩ : ∃ S : ByteArray, (⟨l.toArray⟩ : ByteArray) = S := ⟨_, rfl⟩
  rw [hS] at hz hW
  rw [hS]
  have HW := hide hW
  obtain ⟨R, hR⟩ : ∃ S : ByteArray, (⟨r.toArray⟩ : ByteArray) = S := ⟨_, rfl⟩
  rw [hR] at HRR
  have HF : Hid (∀ w3 g, w.heap.size + 1 + 1 + 1 ≤ g → Rd (w.heap.size + 1 + 1) W w3 R → RowAt w3 g 0 vs.length (KV vs) (NV vs) (TV vs) →
      w3.heap[w.heap.size]? = some (.cells #[.slice none 0 0] 31) ∧ w3.heap[w.heap.size + 1]? = some (.cells #[.int .i64 0] 23) ∧ w3.cell? ⟨w.heap.size + 1 + 1, 0, none⟩ = some (.string R) ∧ Below w.heap.size w w3) := fun w3 g hg hrd hrow =>
    ⟨(hrd.keep _ (by omega) (by omega)).trans k0, (hrd.keep _ (by omega) (by omega)).trans k1, hrd.cell, BW.out.trans (hrd.below.mono (by omega))⟩
  clear hS hyes hl k0 k1 k2 sz hW
  constructor
  · intro hr
    have hne : (R.toList == (⟨#[]⟩ : ByteArray).toList) = false := by
      rw [← hR, ByteArray.toList_eq, ByteArray.toList_eq]
      simp [hr]
    have hne2 : (R.toList == []) = false := by
      rw [← hR, ByteArray.toList_eq]
      simp [hr]
    clear hR hr
    go_enter_defers Try.func16, Try.ntmps16
    go_wp2_with (first
      | (go_at_call 28; with_reducible refine Calls.mono (must_yes _) ?_; rintro e w2 ⟨rfl, rfl⟩)
      | (go_at_call 28; with_reducible refine Calls.mono (must_no _) ?_; rintro e w2 ⟨rfl, rfl⟩)
      | (go_at_call 29; rw [HW.out]; with_reducible refine Calls.mono HRR.out ?_; rintro e w3 ⟨g, rfl, hg, hrow, hrd⟩; have hf := HF.out w3 g (by rw [← HSz.out]; exact hg) hrd hrow; have HF3 := hide hf; have d0 := block_cell hf.1 0; have f0 := block_frozen hf.1 0; have d2 := hf.2.2.1; clear hf hrow hrd hg))
    refine decode_caught (v := .slice (some ⟨g, 0, none⟩) vs.length vs.length) rfl rfl ?_ ?_ (HF3.out.2.2.2.setCell (Nat.le_refl _) _)
    · exact set_block HF3.out.1 0 _
    · rw [Below.heap_setCell _ _ _ _ (by simp)]; exact HF3.out.2.1
  · intro hr
    have hR0 : R = ⟨#[]⟩ := by rw [← hR, hr]
    clear hR hr
    subst hR0
    go_enter_defers Try.func16, Try.ntmps16
    go_wp2_with (first
      | (go_at_call 28; with_reducible refine Calls.mono (must_yes _) ?_; rintro e w2 ⟨rfl, rfl⟩)
      | (go_at_call 29; rw [HW.out]; with_reducible refine Calls.mono HRR.out ?_; rintro e w3 ⟨g, rfl, hg, hrow, hrd⟩; have hf := HF.out w3 g (by rw [← HSz.out]; exact hg) hrd hrow; have HF3 := hide hf; have HG3 := hide hg; have HRow := hide hrow; have d0 := block_cell hf.1 0; have f0 := block_frozen hf.1 0; have d1 := block_cell hf.2.1 0; have f1 := block_frozen hf.2.1 0; have d2 := hf.2.2.1; clear hf hrow hrd hg))
    have z0 := set_block (set_block HF3.out.1 0 (.slice (some ⟨g, 0, none⟩) vs.length vs.length)) 0 (.slice (some ⟨g, 0, none⟩) vs.length vs.length)
    have z1 : ((w3.setCell ⟨w.heap.size, 0, none⟩ (.slice (some ⟨g, 0, none⟩) vs.length vs.length)).setCell ⟨w.heap.size, 0, none⟩ (.slice (some ⟨g, 0, none⟩) vs.length vs.length)).heap[w.heap.size + 1]? = some (.cells #[.int .i64 0] 23) := by
      rw [Below.heap_setCell _ _ _ _ (by simp), Below.heap_setCell _ _ _ _ (by simp)]; exact HF3.out.2.1
    obtain ⟨X, hX⟩ : ∃ X, ((w3.setCell ⟨w.heap.size, 0, none⟩ (.slice (some ⟨g, 0, none⟩) vs.length vs.length)).setCell ⟨w.heap.size, 0, none⟩ (.slice (some ⟨g, 0, none⟩) vs.length vs.length)).setCell ⟨w.heap.size + 1, 0, none⟩ (.int .i64 0) = X := ⟨_, rfl⟩
    rw [hX]
    have y0 : X.cell? ⟨w.heap.size, 0, none⟩ = some (.slice (some ⟨g, 0, none⟩) vs.length vs.length) := by
      rw [← hX, World.cell?_of_block (Below.heap_setCell _ _ _ _ (by simp))]
      exact block_cell z0 0
    have y1 : X.cell? ⟨w.heap.size + 1, 0, none⟩ = some (.int .i64 0) := by
      rw [← hX]
      exact block_cell (set_block z1 0 (.int .i64 0)) 0
    have hB : Below w.heap.size w X := by
      rw [← hX]
      exact ((HF3.out.2.2.2.setCell (Nat.le_refl _) _).setCell (Nat.le_refl _) _).setCell (Nat.le_succ _) _
    have hRow : RowAt X g 0 vs.length (KV vs) (NV vs) (TV vs) := by
      have hg : X.heap[g]? = w3.heap[g]? := by
        have h1 := HG3.out
        have h2 := HSz.out
        rw [← hX, Below.heap_setCell _ _ _ _ (by show g ≠ w.heap.size + 1; omega), Below.heap_setCell _ _ _ _ (by show g ≠ w.heap.size; omega), Below.heap_setCell _ _ _ _ (by show g ≠ w.heap.size; omega)]
      have hcell : ∀ i, X.cell? ⟨g, i, none⟩ = w3.cell? ⟨g, i, none⟩ := fun i => World.cell?_of_block hg
      intro i hi
      rw [hcell, hcell, hcell]
      exact HRow.out i hi
    refine leaves_cons (f := 27) (args := #[.pointer (some ⟨w.heap.size, 0, none⟩), .pointer (some ⟨w.heap.size + 1, 0, none⟩)]) (by simp) (by simp [go_sem]) ?_
    refine (catch_ok w.heap.size (w.heap.size + 1) X).mono ?_
    rintro e u' w'' ⟨rfl, rfl, rfl⟩
    simp [Leaves, settle, results, Try.results16, go_sem, y0, y1]
    first | exact ⟨hRow, hB⟩ | trace_state

/-- Decode of any text, exact. -/
theorem decode_any (l : List UInt8) (w : World) :
    Calls Try.prog 16 #[.string ⟨l.toArray⟩] w fun e w' => (∀ vs, rdAll l = some vs → ∃ g, e = .returned (.tuple #[.slice (some ⟨g, 0, none⟩) vs.length vs.length, .int .i64 0]) ∧ RowAt w' g 0 vs.length (KV vs) (NV vs) (TV vs) ∧ Below w.heap.size w w') ∧
      (rdAll l = none → e = .returned (.tuple #[.slice none 0 0, .int .i64 8]) ∧ Below w.heap.size w w') := by
  by_cases hl : 4000 < l.length
  · refine (decode_long l hl w).mono fun e w' h => ⟨fun vs hvs => ?_, fun _ => h⟩
    exact absurd hl ((rdAll_row l vs).1 hvs).1
  cases hr : rowRd l with
  | none =>
    refine (decode_none l hl hr w).mono fun e w' h => ⟨fun vs hvs => ?_, fun _ => h⟩
    have := ((rdAll_row l vs).1 hvs).2
    rw [hr] at this; cases this
  | some q =>
    obtain ⟨vs0, r⟩ := q
    by_cases h0 : r = []
    · refine ((decode_some l hl vs0 r hr w).2 h0).mono fun e w' h => ⟨fun vs hvs => ?_, fun hn => ?_⟩
      · have := ((rdAll_row l vs).1 hvs).2
        rw [hr] at this
        simp only [Option.some.injEq, Prod.mk.injEq] at this
        obtain ⟨rfl, -⟩ := this
        exact h
      · have := (rdAll_row l vs0).2 ⟨hl, by rw [hr, h0]⟩
        rw [hn] at this; cases this
    · refine ((decode_some l hl vs0 r hr w).1 h0).mono fun e w' h => ⟨fun vs hvs => ?_, fun _ => h⟩
      have := ((rdAll_row l vs).1 hvs).2
      rw [hr] at this
      simp only [Option.some.injEq, Prod.mk.injEq] at this
      exact absurd this.2 h0
end Go.Proofs.Ytfjmoiooonialaa
