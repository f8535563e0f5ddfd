/- The walk of PageChanges. -/
import Derived.Test.YthhoeabenngiiaaNG
import Derived.Deep.CutRange
namespace Go.Proofs.Ythhoeabenngiiaa
open Go.ChangeShapes Go.WideShapes Go.ChangeAt Go.RowKit
set_option linter.unusedVariables false

theorem body_size : (Try.prog.info? 27).map (·.size) = some 4 := by kernel_rfl
set_option maxHeartbeats 4000000 in
set_option maxRecDepth 10000 in
theorem changes_not (l : List UInt8) (hl : l.length = 256) (ho : ¬ okB l) (i : Int) (c : ByteArray) (L : Nat) (hL : L < 4294967296) (w : World) :
    Calls Try.prog 5 #[.agg (bc l), .int .i64 i, .string c, .int .u32 (L : Int)] w fun e w' => e = .returned (.bool true) ∧ Below w.heap.size w w' := by
  have HM := hide (Pg.start w (pgO l))
  have HL := hide hl
  have HRd : Hid (∀ V, Calls Try.prog 8 #[.agg (bc l)] V fun e w' => e = .returned (bodyV false 0 0 (.slice none 0 0)) ∧ Below V.heap.size V w') := fun V => (rread_walk l hl V).mono fun e w' h => h.2 ho
  have HIn : Hid (∀ V, Calls Try.prog 20 #[.agg (bc l), .int .i64 i, .string c] V fun e w' => e = .returned (.tuple #[.agg (bc zs), .int .i64 8]) ∧ Below V.heap.size V w') := fun V => insert_not l hl ho i c V
  have HDl : Hid (∀ V, Calls Try.prog 21 #[.agg (bc l), .int .i64 i] V fun e w' => e = .returned (.tuple #[.agg (bc zs), .int .i64 8]) ∧ Below V.heap.size V w') := fun V => delete_bad l hl i 8 (by unfold plE; rw [if_neg ho]) (by omega) V
  have HSl : Hid (∀ V, Calls Try.prog 22 #[.agg (bc l), .int .u32 (L : Int)] V fun e w' => e = .returned (.tuple #[.agg (bc zs), .int .i64 8]) ∧ Below V.heap.size V w') := fun V => setLink_not l hl ho L V
  have hz := zero_page.1
  have hbu := built_page
  have heq := fun V => eq_page zs_length V
  clear hl ho hL
  go_enter Try.func5, Try.ntmps5
  go_upto_region 5 with (first
    | (refine wp_loadP HL.out (HM.out.here (w.heap.size, pgO l) (by simp)) _ (by rfl) (by rfl) (by rfl) ?_)
    | (go_at_call 8; with_reducible refine Calls.mono (HRd.out _) ?_; rintro e w1 ⟨rfl, hb⟩; have HM := hide ((HM.out.later hb).new (bodyC false 0 0 (.slice none 0 0))); clear hb)
    | (go_at_call 20; with_reducible refine Calls.mono (HIn.out _) ?_; rintro e w2 ⟨rfl, hb⟩; have HM := hide ((HM.out.later hb).new (pgO zs)); clear hb)
    | (go_at_call 21; with_reducible refine Calls.mono (HDl.out _) ?_; rintro e w3 ⟨rfl, hb⟩; have HM := hide ((HM.out.later hb).new (pgO zs)); clear hb)
    | (go_at_call 22; with_reducible refine Calls.mono (HSl.out _) ?_; rintro e w4 ⟨rfl, hb⟩; have HM := hide ((HM.out.later hb).new (pgO zs)); clear hb)
    | (refine wp_storeP zs_length zs_length (HM.out.here (_, pgO zs) (List.mem_cons_self ..)) _ _ (by rfl) (by rfl) (by rfl) (by rfl) ?_; intro W3 hp hb hk; have HM := hide (HM.out.put hp hb hk); clear hp hb hk))
  obtain ⟨⟨d0, d1, d2, d3⟩, _⟩ := res4 (HM.out.here (w1.heap.size, bodyC false 0 0 (.slice none 0 0)) (by simp))
  go_wp2_with (first
    | (refine wp_loadPG zs_length (HM.out.here (w2.heap.size, pgO zs) (by simp)) _ (by rfl) (by rfl) (by rfl) ?_)
    | (refine wp_loadPG zs_length (HM.out.here (w3.heap.size, pgO zs) (by simp)) _ (by rfl) (by rfl) (by rfl) ?_)
    | (refine wp_loadPG zs_length (HM.out.here (w4.heap.size, pgO zs) (by simp)) _ (by rfl) (by rfl) (by rfl) ?_)
    | (go_at_call 17; with_reducible refine Calls.mono (awake_walk _) ?_; rintro e w5 ⟨rfl, hb⟩; have HX := hide (below_trans HM.out.below hb); clear hb))
  go_ret
  exact ⟨rfl, HX.out⟩
end Go.Proofs.Ythhoeabenngiiaa
