/- The copy with a mark, of any row; that it is kept. -/
import Derived.Test.YtfjmoiooonialaaEE
namespace Go.Proofs.Ytfjmoiooonialaa
open Go.ChangeShapes Go.WideShapes Go.ChangeAt Go.RowKit
set_option linter.unusedVariables false

theorem rowCells_zero {K N : Nat → Int} {T : Nat → ByteArray} : rowCells 0 K N T = [] := by simp [rowCells]
set_option maxHeartbeats 2000000 in
set_option maxRecDepth 10000 in
theorem own_zero (p : Option Addr) (cap : Nat) (hp : p = none → cap = 0) (w : World) :
    Calls Try.prog 12 #[.slice p 0 cap] w fun e w' => ∃ g c, e = .returned (.slice (some ⟨g, 0, none⟩) 0 c) ∧ 0 + 1 ≤ c ∧ w'.cell? ⟨g, 0 * 3 + 1, none⟩ = some (.int .i64 77) ∧ Below w.heap.size w w' := by
  have HO0 : Hid ((w.alloc (.cells #[] 46)).ownsRow w.heap.size 46 3 (.slice (some ⟨w.heap.size, 0, none⟩) 0 0) 0 (rowCells 0 (fun _ => 0) (fun _ => 0) (fun _ => ⟨#[]⟩))) := by
    rw [rowCells_zero]
    exact World.ownsRow_made w #[] 0 (Nat.le_refl _) (by simp [maxLen]) (by simp)
  have HB0 := hide (new_below w (.cells #[] 46) rfl)
  have HN1 := hide (show (0 + 1) * 32 ≤ 140737488355328 by omega)
  cases p with
  | none =>
    obtain rfl := hp rfl
    go_enter Try.func12, Try.ntmps12
    go_upto_region 2 with fail
    go_name_world W hW
    rw [hW] at HO0 HB0
    clear hW
    go_wp2_with (first
      | (at_builtin; refine wp_appV (own_alloc HO0.out _) (m := 1) (news := markL) rfl (mark_cells W) mark_one HN1.out (bl_more HB0.out _).size _ _ (by rfl) (by rfl) (by rfl) (by rfl) ?_; intro v2 w2 ho hiff hk; have HB2 := hide (hk _ (bl_more HB0.out _)); obtain ⟨g, c, rfl, hc, hr, hm⟩ := own_mark ho; have HM2 := hide hm; have l1 := le_cast hc; have HL := hide hc; clear ho hk hiff hr hm hc))
    go_ret
    exact ⟨g, c, rfl, HL.out, HM2.out, HB2.out⟩
  | some a =>
    go_enter Try.func12, Try.ntmps12
    go_upto_region 2 with fail
    go_name_world W hW
    rw [hW] at HO0 HB0
    clear hW
    go_wp2_with (first
      | (at_builtin; refine wp_appV (own_alloc HO0.out _) (m := 1) (news := markL) rfl (mark_cells W) mark_one HN1.out (bl_more HB0.out _).size _ _ (by rfl) (by rfl) (by rfl) (by rfl) ?_; intro v2 w2 ho hiff hk; have HB2 := hide (hk _ (bl_more HB0.out _)); obtain ⟨g, c, rfl, hc, hr, hm⟩ := own_mark ho; have HM2 := hide hm; have l1 := le_cast hc; have HL := hide hc; clear ho hk hiff hr hm hc))
    go_ret
    exact ⟨g, c, rfl, HL.out, HM2.out, HB2.out⟩

/-- Any row's copy. -/
theorem own_walk (p : Option Addr) (n cap : Nat) (hp : p = none → cap = 0) (K N : Nat → Int) (T : Nat → ByteArray) (hn : (n + 1) * 32 ≤ 140737488355328) (w : World) (h : RowP w p n K N T) :
    Calls Try.prog 12 #[.slice p n cap] w fun e w' => ∃ g c, e = .returned (.slice (some ⟨g, 0, none⟩) n c) ∧ n + 1 ≤ c ∧ RowAt w' g 0 n K N T ∧ w'.cell? ⟨g, n * 3 + 1, none⟩ = some (.int .i64 77) ∧ Below w.heap.size w w' := by
  by_cases h0 : n = 0
  · subst h0
    exact (own_zero p cap hp w).mono fun e w' ⟨g, c, h1, h2, h3, h4⟩ => ⟨g, c, h1, h2, fun i hi => by omega, h3, h4⟩
  · obtain ⟨b, o, rfl, hr⟩ := h (by omega)
    exact own_some b o n cap K N T hn w hr

set_option maxHeartbeats 2000000 in
set_option maxRecDepth 10000 in
theorem kept_walk (g n c : Nat) (p : Option Addr) (cap : Nat) (hnc : n + 1 ≤ c) (hn : n ≤ 140737488355328) (K N : Nat → Int) (T : Nat → ByteArray) (w : World) (h : RowAt w g 0 n K N T) (hm : w.cell? ⟨g, n * 3 + 1, none⟩ = some (.int .i64 77)) (h2 : RowP w p n K N T) :
    Calls Try.prog 15 #[.slice (some ⟨g, 0, none⟩) n c, .slice p n cap] w fun e w' => e = .returned (.bool true) ∧ Below w.heap.size w w' := by
  have HS := hide (rsame_walk (some ⟨g, 0, none⟩) p n c n cap K N T K N T hn w (fun _ => ⟨g, 0, rfl, h⟩) h2)
  have HY := hide (same_yes (len := n) (K := K) (N := N) (T := T) (K2 := K) (N2 := N) (T2 := T) (fun i _ => ⟨rfl, rfl, rfl⟩))
  have HM := hide hm
  have l0 : (0 : Int) ≤ (n : Int) := by omega
  have l1 : (0 : Int) ≤ (n : Int) + 1 := by omega
  have l2 : (n : Int) + 1 ≤ (c : Int) := by omega
  have l3 : (n : Int) < (n : Int) + 1 := by omega
  have hw1 : IntKind.i64.wrap ((n : Int) + 1) = (n : Int) + 1 := by rw [IntKind.wrap_i64]; omega
  clear h hm h2
  go_enter Try.func15, Try.ntmps15
  go_wp2_with (first
    | (go_at_call 18; with_reducible refine Calls.mono HS.out ?_; rintro e w1 ⟨rfl, hb⟩; rw [HY.out]; have hm1 := cell_later hb HM.out; have HX := hide hb; clear hb))
  go_ret
  exact ⟨rfl, HX.out⟩
end Go.Proofs.Ytfjmoiooonialaa
