/- The changes of a disk, copied. -/
import Derived.Test.YtefcconbpomedaaW8
namespace Go.Proofs.Ytefcconbpomedaa
open Go.ChangeShapes Go.WideShapes Go.ChangeAt Go.RowKit
set_option linter.unusedVariables false

theorem one_chcells (l : List Ch) : ∀ v ∈ chcells l, v.oneCell' = true := fun v hv => by
  obtain ⟨c, _, hc⟩ := List.mem_flatMap.1 hv
  exact one_chg _ _ _ _ v hc
theorem app_noneC (pv : Option Addr) (n cv : Nat) (hn : n ≤ cv) (p : Option Addr) (c : Nat) (ty : TypeId) (W : World) : (Builtin.append_ #[61, 61] ty #[.slice pv n cv, .slice p 0 c]).run Try.prog W = .ok (.slice pv n cv) W := by
  obtain ⟨i, hi, hz, hsz, hby⟩ := info75
  cases p <;> cases pv <;> simp [Builtin.append_, run_underlying Try.underlying61, sizeOf, typeInfo, hi, Builtin.lenOf, Builtin.firstCells, loadCells, loadCellsFrom, storeCells, hn]

set_option maxHeartbeats 1000000 in
set_option maxRecDepth 100000 in
theorem clone_changes (w : World) (base : Nat) (v : Value) (l : List Ch) (h64 : ∀ c ∈ l, c.data.length = 64) (hown : w.ownsRow base 75 67 v l.length (chcells l)) (hl : l.length ≤ 1000000000) (hbase : base ≤ w.heap.size) :
    Calls Try.prog 45 #[v] w fun e w' => ∃ v', e = .returned v' ∧ w'.ownsRow base 75 67 v' l.length (chcells l) ∧ (∀ g, v'.ownBlock = some g → w.heap.size ≤ g) ∧ w.grownBy w' none := by
  rcases hown.2 with ⟨rfl, hz⟩ | ⟨g, cap, cur, rfl, hbg, hg, hnc, hcm, hcs, htake⟩
  · have e1 : l = [] := List.length_eq_zero_iff.1 hz
    subst e1
    have hnl : ∀ V, (binOp .eql 61 (.slice none 0 0) (.slice none 0 0)).run Try.prog V = .ok (.bool true) V := fun V => Lib.run_eql_slice_nil (P := Try.prog) V 61 75 none 0 0 0 0 Try.underlying61
    clear hown
    go_enter Try.func45, Try.ntmps45
    go_wp2
    go_ret
    exact ⟨_, rfl, World.ownsRow_nil _ _ _ _, (fun g h => by cases h), ⟨rfl, rfl, rfl, Nat.le_refl _, fun _ _ _ => rfl⟩⟩
  · have hG0 := World.grownBy_alloc w (.cells #[] 75) none
    have hE : (w.alloc (.cells #[] 75)).ownsRow w.heap.size 75 67 (.slice (some ⟨w.heap.size, 0, none⟩) 0 0) 0 [] := ⟨rfl, .inr ⟨w.heap.size, 0, #[], rfl, Nat.le_refl _, alloc_new _ _, Nat.le_refl _, Nat.zero_le _, rfl, rfl⟩⟩
    obtain ⟨v', w', hap, h2, h3, h4⟩ : ∃ v' w', (∀ ty, (Builtin.append_ #[61, 61] ty #[.slice (some ⟨w.heap.size, 0, none⟩) 0 0, .slice (some ⟨g, 0, none⟩) l.length cap]).run Try.prog (w.alloc (.cells #[] 75)) = .ok v' w') ∧ w'.ownsRow base 75 67 v' l.length (chcells l) ∧ (w.alloc (.cells #[] 75)).grownBy w' (some w.heap.size) ∧ ∀ k, v'.ownBlock = some k → w.heap.size ≤ k := by
      by_cases h0 : l.length = 0
      · have e1 : l = [] := List.length_eq_zero_iff.1 h0
        subst e1
        exact ⟨_, _, fun ty => app_noneC _ 0 0 (Nat.le_refl _) _ _ ty _, ownsRow_base hE hbase, ⟨rfl, rfl, rfl, Nat.le_refl _, fun _ _ _ => rfl⟩, fun k hk => by cases hk; exact Nat.le_refl _⟩
      · obtain ⟨i, hi, hz, hsz, hby⟩ := info75
        have hc := hown.cells (g := g) rfl
        have key := fun ty => app_own (P := Try.prog) (w.alloc (.cells #[] 75)) w.heap.size 61 ty 75 i _ 67 96 Try.underlying61 hi hz hsz hby (by simp [Value.cells, length_chg]) (by omega) (.slice (some ⟨w.heap.size, 0, none⟩) 0 0) 0 [] hE ⟨g, 0, none⟩ l.length cap (by omega) (chcells l) hown.1 (fun j u hj => (World.grownBy_alloc w _ none).cell (hc j u hj) (by simp)) (one_chcells l) (by simp only [maxLen]; omega) (by omega) (by simp)
        obtain ⟨v', w', hrun, ho, hg', q, hq, hqq⟩ := key 0
        refine ⟨v', w', fun ty => ?_, ?_, hg', fun k hk => ?_⟩
        · exact hrun
        · have := ownsRow_base ho hbase
          simpa using this
        · rw [hq] at hk
          cases hk
          rcases hqq with h | h
          · cases h; exact Nat.le_refl _
          · simp at h; omega
    have hgw : w.grownBy w' none := ⟨h3.os.trans hG0.os, h3.tape.trans hG0.tape, h3.output.trans hG0.output, Nat.le_trans hG0.size h3.size, fun k hk _ => by
      have hk2 : k < (w.alloc (.cells #[] 75)).heap.size := by simp; omega
      rw [h3.block k hk2 (fun e => by have : k = w.heap.size := by simpa using e
                                      omega)]
      exact hG0.block k hk (by simp)⟩
    have HE := hide (And.intro h2 (And.intro h4 hgw))
    have hnl : ∀ V, (binOp .eql 61 (.slice (some ⟨g, 0, none⟩) l.length cap) (.slice none 0 0)).run Try.prog V = .ok (.bool false) V := fun V => Lib.run_eql_slice_nil (P := Try.prog) V 61 75 (some ⟨g, 0, none⟩) l.length cap 0 0 Try.underlying61
    clear hown hE hG0 h2 h3 h4 hgw hg hcs htake
    go_enter Try.func45, Try.ntmps45
    have HAp := hide hap
    clear hap
    go_wp2_with (refine wp_run2 (by rfl) _ _ 61 61 (by rfl) _ _ v' w' (by rfl) (by rfl) (HAp.out _) ?_)
    go_ret
    exact ⟨_, rfl, HE.out.1, HE.out.2.1, HE.out.2.2⟩

end Go.Proofs.Ytefcconbpomedaa
