/- The program's own mayBe: which texts the tokens of a kind may have. -/
import Derived.Test.YtkooijhdjjdigaaDoorCF
import Derived.Test.YtkooijhdjjdigaaDoorCO
namespace Go.Proofs.YtkooijhdjjdigaaDoor
open Go.ChangeShapes Go.WideShapes Go.ChangeAt Go.RowKit Go.Shelf
set_option linter.unusedVariables false

theorem store_fn (w : World) (f t : Nat) : (store ⟨w.heap.size, 0, none⟩ (.func (.func f) #[] #[])).run Tryd.prog (w.alloc (.cells #[.nilFunc] t)) = .ok () ((w.alloc (.cells #[.nilFunc] t)).setCell ⟨w.heap.size, 0, none⟩ (.func (.func f) #[] #[])) := by
  have hc := Blk.cell (Blk.new w #[.nilFunc] t) 0
  have hf := Blk.frozen (Blk.new w #[.nilFunc] t) 0
  rw [run_store _ _ _ _ _ rfl]
  simp [hc, hf]
theorem maybe_sz1 (w : World) :
    Calls Tryd.prog 33 #[.int .i64 1] w fun e w' => e = .returned (.func (.func 50) #[] #[.pointer (some ⟨w.heap.size, 0, none⟩)]) ∧ Blk w' w.heap.size #[.func (.func 69) #[] #[]] 77 ∧ Below w.heap.size w w' := by
  have HS : Hid (∀ V, Calls Tryd.prog 49 #[.int .i64 1] V fun e w' => e = .returned (.func (.func 69) #[] #[]) ∧ V = w') := fun V => sizeof_e 1 (by omega) V
  have hst := store_fn w 69 77
  go_enter Tryd.func33, Tryd.ntmps33
  go_wp2_with (first
    | (go_at_call 49; (with_reducible refine Calls.mono (HS.out _) ?_); rintro e w5 ⟨rfl, rfl⟩))
  go_ret
  exact ⟨rfl, Blk.new w _ _, below_alloc w _⟩
theorem maybe_sz2 (w : World) :
    Calls Tryd.prog 33 #[.int .i64 2] w fun e w' => e = .returned (.func (.func 50) #[] #[.pointer (some ⟨w.heap.size, 0, none⟩)]) ∧ Blk w' w.heap.size #[.func (.func 53) #[] #[]] 77 ∧ Below w.heap.size w w' := by
  have HS : Hid (∀ V, Calls Tryd.prog 49 #[.int .i64 2] V fun e w' => e = .returned (.func (.func 53) #[] #[]) ∧ V = w') := fun V => sizeof_e 2 (by omega) V
  have hst := store_fn w 53 77
  go_enter Tryd.func33, Tryd.ntmps33
  go_wp2_with (first
    | (go_at_call 49; (with_reducible refine Calls.mono (HS.out _) ?_); rintro e w5 ⟨rfl, rfl⟩))
  go_ret
  exact ⟨rfl, Blk.new w _ _, below_alloc w _⟩
theorem maybe_sz6 (w : World) :
    Calls Tryd.prog 33 #[.int .i64 6] w fun e w' => e = .returned (.func (.func 50) #[] #[.pointer (some ⟨w.heap.size, 0, none⟩)]) ∧ Blk w' w.heap.size #[.func (.func 73) #[] #[]] 77 ∧ Below w.heap.size w w' := by
  have HS : Hid (∀ V, Calls Tryd.prog 49 #[.int .i64 6] V fun e w' => e = .returned (.func (.func 73) #[] #[]) ∧ V = w') := fun V => sizeof_e 6 (by omega) V
  have hst := store_fn w 73 77
  go_enter Tryd.func33, Tryd.ntmps33
  go_wp2_with (first
    | (go_at_call 49; (with_reducible refine Calls.mono (HS.out _) ?_); rintro e w5 ⟨rfl, rfl⟩))
  go_ret
  exact ⟨rfl, Blk.new w _ _, below_alloc w _⟩
theorem maybe_sz (k : Nat) (hk : k = 1 ∨ k = 2 ∨ k = 6) (w : World) :
    Calls Tryd.prog 33 #[.int .i64 (k : Int)] w fun e w' => e = .returned (.func (.func 50) #[] #[.pointer (some ⟨w.heap.size, 0, none⟩)]) ∧ Blk w' w.heap.size #[.func (.func (szF k)) #[] #[]] 77 ∧ Below w.heap.size w w' := by
  rcases hk with rfl | rfl | rfl
  · exact maybe_sz1 w
  · exact maybe_sz2 w
  · exact maybe_sz6 w
theorem maybe_any (k : Nat) (hk : k = 3 ∨ k = 4) (w : World) : Calls Tryd.prog 33 #[.int .i64 (k : Int)] w fun e w' => e = .returned (.func (.func 51) #[] #[]) ∧ w' = w := by
  rcases hk with rfl | rfl
  all_goals
    go_enter Tryd.func33, Tryd.ntmps33
    go_wp2
    go_ret
    exact ⟨rfl, rfl⟩
theorem maybe_par (w : World) : Calls Tryd.prog 33 #[.int .i64 5] w fun e w' => e = .returned (.func (.func 52) #[] #[]) ∧ w' = w := by
  go_enter Tryd.func33, Tryd.ntmps33
  go_wp2
  go_ret
  exact ⟨rfl, rfl⟩
theorem maybe_not (k : Int) (hk : k < 1 ∨ 6 < k) (w : World) : Calls Tryd.prog 33 #[.int .i64 k] w fun e w' => e = .returned (.func (.func 54) #[] #[]) ∧ w' = w := by
  have e1 : (k == 1) = false := by simp; omega
  have e2 : (k == 2) = false := by simp; omega
  have e3 : (k == 3) = false := by simp; omega
  have e4 : (k == 4) = false := by simp; omega
  have e5 : (k == 5) = false := by simp; omega
  have e6 : (k == 6) = false := by simp; omega
  go_enter Tryd.func33, Tryd.ntmps33
  go_wp2
  go_ret
  exact ⟨rfl, rfl⟩
theorem leads_may1 : Leads 50 := fun _ _ => by simp [go_sem]
theorem leads_may2 : Leads 51 := fun _ _ => by simp [go_sem]
theorem leads_may3 : Leads 52 := fun _ _ => by simp [go_sem]
theorem leads_may4 : Leads 54 := fun _ _ => by simp [go_sem]
set_option maxRecDepth 20000 in
theorem may1_e (k : Nat) (hk : k = 1 ∨ k = 2 ∨ k = 6) (A : Nat) (s : ByteArray) (hs : s.size ≤ 140737488355328) (w : World) (hA : Blk w A #[.func (.func (szF k)) #[] #[]] 77) :
    Calls Tryd.prog 50 #[.string s, .pointer (some ⟨A, 0, none⟩)] w fun e w' => e = .returned (.bool (decide (s.size ≠ 0) && decide (siz k s.data.toList = s.size))) ∧ w = w' := by
  have c0 := hA.cell 0
  have HZ := hide (size_e k (by omega) s hs (by omega) (by omega) (by omega))
  have HL := hide (leads_size k (by omega))
  generalize siz k s.data.toList = m at *
  by_cases h0 : s.size = 0
  · obtain ⟨e0, e00⟩ := ba_nil s h0
    rw [decide_eq_false (by simpa using h0)]
    clear HZ HL
    go_enter Tryd.func50, Tryd.ntmps50
    go_wp2
    go_ret
    exact ⟨rfl, rfl⟩
  · obtain ⟨e0, e00⟩ := ba_some s h0
    rw [decide_eq_true h0]
    have em : ((m : Int) == (s.size : Int)) = decide (m = s.size) := by rw [Bool.eq_iff_iff]; simp; omega
    generalize decide (m = s.size) = b at *
    go_enter Tryd.func50, Tryd.ntmps50
    go_wp2
    rw [HL.out]
    refine Calls.mono (HZ.out _) ?_
    rintro e w5 ⟨rfl, rfl⟩
    go_wp2
    go_ret
    exact ⟨by simp, rfl⟩
theorem may2_e (s : ByteArray) (w : World) : Calls Tryd.prog 51 #[.string s] w fun e w' => e = .returned (.bool true) ∧ w = w' := by
  go_enter Tryd.func51, Tryd.ntmps51
  go_wp2
  go_ret
  exact ⟨rfl, rfl⟩
theorem may4_e (s : ByteArray) (w : World) : Calls Tryd.prog 54 #[.string s] w fun e w' => e = .returned (.bool false) ∧ w = w' := by
  go_enter Tryd.func54, Tryd.ntmps54
  go_wp2
  go_ret
  exact ⟨rfl, rfl⟩
theorem may3_e (s : ByteArray) (hs : s.size ≤ 140737488355328) (w : World) : Calls Tryd.prog 52 #[.string s] w fun e w' => e = .returned (.bool (decide (dgs s.data.toList = s.size))) ∧ w = w' := by
  have HD := hide (digits_e s hs)
  generalize dgs s.data.toList = m at *
  have em : ((m : Int) == (s.size : Int)) = decide (m = s.size) := by rw [Bool.eq_iff_iff]; simp; omega
  generalize decide (m = s.size) = b at *
  go_enter Tryd.func52, Tryd.ntmps52
  go_wp2_with (first
    | (go_at_call 53; (with_reducible refine Calls.mono (HD.out _) ?_); rintro e w5 ⟨rfl, rfl⟩))
  go_ret
  exact ⟨by simp, rfl⟩
end Go.Proofs.YtkooijhdjjdigaaDoor
