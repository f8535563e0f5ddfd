/- May, Int. -/
import Derived.Test.YtfjmoiooonialaaVE
import Derived.Handy
import Derived.Deep.RegionHeld3
import Derived.Deep.Cut
namespace Go.Proofs.Ytfjmoiooonialaa
open Go.ChangeShapes Go.WideShapes Go.ChangeAt Go.RowKit
set_option linter.unusedVariables false

instance (k n : Int) (t : List UInt8) : Decidable (MayL k n t) := by unfold MayL; infer_instance
def mayB (k n : Int) (t : ByteArray) : Bool := decide (MayL k n t.data.toList)


theorem int_walk (n : Int) (w : World) : Calls Try.prog 39 #[.int .i64 n] w fun e w' => e = .returned (val 1 n ⟨#[]⟩) ∧ Below w.heap.size w w' := by
  go_enter Try.func39, Try.ntmps39
  go_wp2
  go_returns
  exact ⟨rfl, by go_grown⟩

theorem new_cells (w : World) (cs : Array Value) (t : TypeId) {W : World} (hW : w.alloc (.cells cs t) = W) (i : Nat) (v : Value) (hv : cs[i]? = some v) : W.cell? ⟨w.heap.size, i, none⟩ = some v := by
  subst hW
  have h : (w.alloc (.cells cs t)).heap[w.heap.size]? = some (.cells cs t) := by
    show (w.heap.push _)[w.heap.size]? = _
    simp
  unfold World.cell?
  simp only [h, hv]
  rfl


theorem may1 {n : Int} {t : ByteArray} : mayB 1 n t = decide (t.data.toList = []) := by simp [mayB, MayL]
theorem may0 {n : Int} {t : ByteArray} : mayB 0 n t = (decide (n = 0) && decide (t.data.toList = [])) := by simp [mayB, MayL]
theorem may2 {n : Int} {t : ByteArray} : mayB 2 n t = (decide (n = 0) && decide (t.size ≤ 400)) := by simp [mayB, MayL]
theorem may3 {n : Int} {t : ByteArray} : mayB 3 n t = (decide (n = 0) && decide (t.size ≤ 400)) := by simp [mayB, MayL]
theorem may_no {k n : Int} {t : ByteArray} (h0 : k ≠ 0) (h1 : k ≠ 1) (h2 : k ≠ 2) (h3 : k ≠ 3) : mayB k n t = false := by simp [mayB, MayL, h0, h1, h2, h3]

set_option maxHeartbeats 1000000 in
set_option maxRecDepth 10000 in
theorem may_walk (k n : Int) (t : ByteArray) (w : World) : Calls Try.prog 35 #[val k n t] w fun e w' => e = .returned (.bool (mayB k n t)) ∧ Below w.heap.size w w' := by
  have hem : t.toList = t.data.toList := by rw [ByteArray.toList_eq]
  by_cases h0 : k = 0
  · subst h0
    rw [may0]
    go_enter Try.func35, Try.ntmps35
    go_wp2
    all_goals
      go_ret
      refine ⟨?_, (Below.refl _ _).alloc (Nat.le_refl _) _⟩
      simp_all
  by_cases h1 : k = 1
  · subst h1
    rw [may1]
    go_enter Try.func35, Try.ntmps35
    go_upto_region 5 with fail
    go_name_world W hW
    have hc0 := new_cells w _ _ hW 0 _ rfl
    have hc1 := new_cells w _ _ hW 1 _ rfl
    have hc2 := new_cells w _ _ hW 2 _ rfl
    have hb0 := new_below w _ hW
    have HK : Hid (∀ V, Below W.heap.size W V → V.cell? ⟨w.heap.size, 0, none⟩ = some (.int .i64 1) ∧ V.cell? ⟨w.heap.size, 1, none⟩ = some (.int .i64 n) ∧ V.cell? ⟨w.heap.size, 2, none⟩ = some (.string t)) := fun V hV => ⟨cell_later hV hc0, cell_later hV hc1, cell_later hV hc2⟩
    have hd : Below W.heap.size W W.drew := (Below.refl _ _).drew
    clear hW
    have hdr : ∀ w1, Below W.drew.heap.size W.drew w1 → Below w.heap.size w w1 := fun w1 h => below_trans (below_trans hb0 hd) h
    have HD : Hid (∀ w1, Below W.drew.heap.size W.drew w1 → Below w.heap.size w w1) := hdr
    clear hdr
    by_cases ht : t.data = #[]
    all_goals
      go_region_held3 (fun V => V.cell? ⟨w.heap.size, 0, none⟩ = some (.int .i64 1) ∧ V.cell? ⟨w.heap.size, 1, none⟩ = some (.int .i64 n) ∧ V.cell? ⟨w.heap.size, 2, none⟩ = some (.string t)) (first | exact HK.out _ hd | exact HK.out _ (below_trans hd hb1))
        (first | (go_at_call 39; with_reducible refine Calls.mono (int_walk _ _) ?_; rintro e w1 ⟨rfl, hb1⟩))
      go_wp2
      go_ret
      refine ⟨?_, HD.out _ hb1⟩
      simp_all
  have hcl : ∀ (k : Int), (k = 2 ∨ k = 3) → Calls Try.prog 35 #[val k n t] w fun e w' => e = .returned (.bool (decide (n = 0) && decide (t.size ≤ 400))) ∧ Below w.heap.size w w' := by
    intro k hk
    rcases hk with rfl | rfl
    all_goals
      go_enter Try.func35, Try.ntmps35
      go_wp2
      all_goals
        go_ret
        refine ⟨?_, (Below.refl _ _).alloc (Nat.le_refl _) _⟩
        simp_all <;> omega
  by_cases h2 : k = 2
  · subst h2; rw [may2]; exact hcl 2 (.inl rfl)
  by_cases h3 : k = 3
  · subst h3; rw [may3]; exact hcl 3 (.inr rfl)
  rw [may_no h0 h1 h2 h3]
  clear hcl
  go_enter Try.func35, Try.ntmps35
  go_wp2
  go_ret
  exact ⟨rfl, (Below.refl _ _).alloc (Nat.le_refl _) _⟩
end Go.Proofs.Ytfjmoiooonialaa
