/- Runs of cells laid one behind the other. -/
import Derived.Test.YtenfjbcigkolaaaGreatGE
namespace Go.Proofs.YtenfjbcigkolaaaGreat
open Go.ChangeShapes Go.WideShapes Go.ChangeAt Go.RowKit
set_option linter.unusedVariables false

theorem built_page : Tryz.prog.built 32 [] = some (bc zs) := by kernel_rfl

set_option maxHeartbeats 2000000 in
set_option maxRecDepth 10000 in
theorem joined_full (k L : Nat) (b o m cap : Nat) (A B : Nat → ByteArray) (hs : (cat A m).length + (cat B m).length ≤ 1000000000) (hm : m ≤ 1000000000) (hf : 250 < (cat A m).length + (cat B m).length) (w : World) (h : RunsAt w b o m A B) :
    Calls Tryz.prog 178 #[.int .u8 k, .int .u32 (L : Int), .slice (some ⟨b, o, none⟩) m cap] w fun e w' => e = .returned (.tuple #[.agg (bc zs), .int .i64 5]) ∧ Below w.heap.size w w' := by
  have HR := hide (h.later (new_below w (.cells (bc zs) 32) rfl))
  have HZ := hide (PAt.new w zs)
  have HB := hide (new_below w (.cells (bc zs) 32) rfl)
  have HS := hide hs
  have HF := hide hf
  have hz := zero_page.1
  have hbu := built_page
  clear h hs hf
  go_enter Tryz.func178, Tryz.ntmps178
  go_wp2
  go_loopw [19, 8, 9] (fun iv cv sv wr => ∃ j : Nat, j ≤ m ∧ iv = .int .i64 (j : Int) ∧ cv = .int .i64 ((cat A j).length : Int) ∧ sv = .int .i64 ((6 + ((cat A j).length + (cat B j).length) : Nat) : Int) ∧ Below (w.alloc (.cells (bc zs) 32)).heap.size (w.alloc (.cells (bc zs) 32)) wr) (fun iv _ _ _ => m - (intOf iv).toNat)
  case atStart => exact ⟨0, Nat.zero_le _, rfl, rfl, rfl, Below.refl _ _⟩
  case round =>
    obtain ⟨j, hj, rfl, rfl, rfl, hbel⟩ := hrel
    have HBj := hide hbel
    clear hbel
    by_cases hlt : j < m
    · have l1 : (j : Int) < (m : Int) := by omega
      have l0 : (0 : Int) ≤ (j : Int) := by omega
      have hw1 : IntKind.i64.wrap ((j : Int) + 1) = (j : Int) + 1 := by rw [IntKind.wrap_i64]; omega
      obtain ⟨c0, c1⟩ := (HR.out.later HBj.out) j hlt
      have hs := HS.out
      have la := cat_len A j
      have lb := cat_len B j
      have ma := cat_mono A (show j + 1 ≤ m by omega)
      have mb := cat_mono B (show j + 1 ≤ m by omega)
      have e1 : IntKind.i64.wrap (((cat A j).length : Int) + ((A j).size : Int)) = ((cat A j).length : Int) + ((A j).size : Int) := by rw [IntKind.wrap_i64]; omega
      have e2 : IntKind.i64.wrap (((A j).size : Int) + ((B j).size : Int)) = ((A j).size : Int) + ((B j).size : Int) := by rw [IntKind.wrap_i64]; omega
      have e3 : IntKind.i64.wrap (6 + (((cat A j).length : Int) + ((cat B j).length : Int)) + (((A j).size : Int) + ((B j).size : Int))) = 6 + (((cat A j).length : Int) + ((cat B j).length : Int)) + (((A j).size : Int) + ((B j).size : Int)) := by rw [IntKind.wrap_i64]; omega
      have HN := hide (below_trans HBj.out (new_below wr (.cells #[.string (A j), .string (B j)] 272) rfl))
      have HLA := hide la
      have HLB := hide lb
      clear la lb ma mb hs
      go_wp2
      refine ⟨⟨j + 1, hlt, rfl, ?_, ?_, HN.out⟩, ?_⟩
      · rw [HLA.out]; congr 1
      · rw [HLA.out, HLB.out]; exact congrArg (Value.int IntKind.i64) (by omega)
      · simp only [intOf]; omega
    · have l1 : ¬ (j : Int) < (m : Int) := by omega
      obtain rfl : j = m := by omega
      have hf := HF.out
      have l2 : (256 : Int) < 6 + (((cat A j).length : Int) + ((cat B j).length : Int)) := by omega
      have HB2 := hide (below_trans HB.out HBj.out)
      have HZ2 := hide (HZ.out.later HBj.out)
      clear hf
      go_wp2_with (first
        | (refine wp_storeP zs_length zs_length HZ2.out _ _ (by rfl) (by rfl) (by rfl) (by rfl) ?_; intro W1 hp hb hk; have HP1 := hide hp; have HB1 := hide (hb _ _ HB2.out (by omega)); clear hp hb hk)
        | (exact ret_page2 Tryz.results178 rfl rfl zs_length HP1.out ⟨rfl, HB1.out⟩))
end Go.Proofs.YtenfjbcigkolaaaGreat
