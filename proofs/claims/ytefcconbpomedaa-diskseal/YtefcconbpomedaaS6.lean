/- The contract of 'cut': the first bytes of one sector, the others of another one. -/
import Derived.Test.YtefcconbpomedaaS4
namespace Go.Proofs.Ytefcconbpomedaa
open Go.ChangeShapes Go.WideShapes Go.ChangeAt Go.RowKit
set_option linter.unusedVariables false

def cutB (x y : List UInt8) (t : Nat) : List UInt8 := x.take t ++ y.drop t
theorem length_cutB (x y : List UInt8) (t : Nat) (hx : x.length = 64) (hy : y.length = 64) (ht : t ≤ 64) : (cutB x y t).length = 64 := by simp [cutB]; omega

theorem cut_step (x y : List UInt8) (k : Nat) (hx : k < x.length) (hy : k < y.length) : (bcs (cutB x y k)).toArray.setIfInBounds k (.int .u8 ((x.getD k 0).toNat : Int)) = (bcs (cutB x y (k + 1))).toArray := by
  rw [List.setIfInBounds_toArray]
  congr 1
  unfold cutB
  have h1 : (bcs (x.take k ++ y.drop k)).set k (.int .u8 ((x.getD k 0).toNat : Int)) = bcs ((x.take k ++ y.drop k).set k (x.getD k 0)) := by simp [bcs, List.map_set]
  rw [h1]
  congr 1
  rw [List.set_eq_take_append_cons_drop, if_pos (by simp; omega), List.take_append, List.drop_append]
  have h2 : (List.take k x).length = k := by simp; omega
  have hg : x.getD k 0 = x[k] := by simp [List.getD, hx]
  rw [h2, List.take_of_length_le (by omega), Nat.sub_self, List.take_zero, List.append_nil, List.drop_of_length_le (by omega), show k + 1 - k = 1 by omega, List.nil_append, List.drop_drop, hg, List.take_succ_eq_append_getElem hx, List.append_assoc]
  rfl

set_option maxHeartbeats 1000000 in
set_option maxRecDepth 100000 in
theorem cut_any (w : World) (x y : List UInt8) (hx : x.length = 64) (hy : y.length = 64) (t : Nat) (ht : t ≤ 64) :
    Calls Try.prog 25 #[.agg (bcs x).toArray, .agg (bcs y).toArray, .int .i64 t] w fun e w' => e = .returned (.agg (bcs (cutB x y t)).toArray) ∧ w.grownBy w' none := by
  go_enter Try.func25, Try.ntmps25
  go_wp2
  have hW := three_alloc w (.cells (bcs x).toArray 42) (.cells (bcs y).toArray 42) (.cells (bcs (List.replicate 64 0)).toArray 42)
  have hW2 := three_more w (.cells (bcs x).toArray 42) (.cells (bcs y).toArray 42) (.cells (bcs (List.replicate 64 0)).toArray 42)
  go_name_world W hWe
  rw [show (((w.alloc (.cells (bcs x).toArray 42)).alloc (.cells (bcs y).toArray 42)).alloc (.cells (bcs (List.replicate 64 0)).toArray 42)) = W from hWe] at hW hW2
  obtain ⟨hgr, hA⟩ := hW
  obtain ⟨hsz, hB, hC⟩ := hW2
  clear hWe
  have HA : Hid (Blk W w.heap.size (bcs x).toArray 42) := hA
  have HB : Hid (Blk W (w.heap.size + 1) (bcs y).toArray 42) := hB
  have HC : Hid (Blk W (w.heap.size + 2) (bcs (List.replicate 64 0)).toArray 42) := hC
  clear hA hB hC
  go_loopw [7] (fun iv wr => ∃ k : Nat, iv = .int .i64 k ∧ k ≤ t ∧ Blk wr (w.heap.size + 1) (bcs (cutB x y k)).toArray 42 ∧ Only [w.heap.size + 1] W wr) (fun iv _ => t - (intOf iv).toNat)
  case atStart => exact ⟨0, rfl, Nat.zero_le _, by simpa [cutB] using HB.out, Only.refl _ _⟩
  case round =>
    obtain ⟨k, rfl, hk, hBk, hO⟩ := hrel
    by_cases hlt : k < t
    · have l1 : (k : Int) < 64 := by omega
      have l2 : (k : Int) < (t : Int) := by omega
      have cx : wr.cell? ⟨w.heap.size, k, none⟩ = some (.int .u8 ((x.getD k 0).toNat : Int)) := by
        rw [cell_of_row _ _ _ _ _ _ (hO.blk HA.out (by simp))]
        simp [bcs, List.getD, show k < x.length by omega]
      have cy : wr.cell? ⟨w.heap.size + 1, k, none⟩ = some (.int .u8 (((cutB x y k).getD k 0).toNat : Int)) := by
        rw [hBk.cell]
        simp [bcs, List.getD, show k < (cutB x y k).length by rw [length_cutB x y k hx hy (by omega)]; omega]
      have fy := hBk.frozen k
      have HBk : Hid (Blk wr (w.heap.size + 1) (bcs (cutB x y k)).toArray 42) := hBk
      clear hBk
      go_wp2
      go_roundw
      case rel =>
        refine ⟨k + 1, by go_num, by omega, ?_, hO.trans (onlyAt _ _ _ _)⟩
        have h := HBk.out.set k (.int .u8 ((x.getD k 0).toNat : Int))
        rw [cut_step x y k (by omega) (by omega)] at h
        exact h
      case measure => simp [intOf]; omega
    · have l2 : ¬ (k : Int) < (t : Int) := by omega
      have hkt : k = t := by omega
      subst hkt
      obtain ⟨X, hX⟩ : ∃ X : Array Value, X = (bcs (cutB x y k)).toArray := ⟨_, rfl⟩
      have hXs : X.size = 64 := by rw [hX]; simp [length_bcs, length_cutB x y k hx hy ht]
      have HX1 : Hid (X.all (·.oneCell') = true) := (show X.all (·.oneCell') = true by rw [hX]; exact Array.all_eq_true_iff_forall_mem.2 (fun v hv => one_bcs _ v (by simpa using hv)))
      have HCX : Hid (Blk wr (w.heap.size + 1) X 42) := (show Blk _ _ _ _ by rw [hX]; exact hBk)
      have HBX : Hid (Blk wr (w.heap.size + 2) (bcs (List.replicate 64 0)).toArray 42) := hO.blk HC.out (by simp)
      have HIX : Hid ((Try.prog.info? 42).map (·.size) = some X.size) := (show (Try.prog.info? 42).map (·.size) = some X.size by rw [hXs]; exact info42s)
      have HZS : Hid ((bcs (List.replicate 64 0)).toArray.size = X.size) := (show (bcs (List.replicate 64 0)).toArray.size = X.size by rw [hXs]; simp [length_bcs])
      have HX : Hid (X = (bcs (cutB x y k)).toArray) := hX
      have HO : Hid (Only [w.heap.size + 1] W wr) := hO
      clear hX hXs hBk hO
      by_cases h64 : k < 64
      case' pos => have l1 : (k : Int) < 64 := by omega
      case' neg => have l1 : decide ((k : Int) < 64) = false := by simp; omega
      all_goals
        go_wp2_with (first
          | refine wpList_load_row rfl 42 (.tmp 4) rfl (w.heap.size + 1) (by simp [Act.eval]) 42 X (0, 0) _ HCX.out Try.underlying42 rfl HIX.out ?_
          | refine wpList_store_row rfl 42 (.tmp 6) (.tmp 22) rfl (w.heap.size + 2) X (by simp [Act.eval, Act.put]) (by simp [Act.eval, Act.put]) 42 _ HBX.out HIX.out HZS.out HX1.out ?_)
        refine bodyPost_ret (v := .agg X) (results_cell_row Try.results25 _ _ (w.heap.size + 2) 42 X (0, 0) _ rfl (setRow_heap _ _ _ _ _ _ HBX.out) Try.underlying42 rfl HIX.out) rfl ⟨by rw [HX.out], ?_⟩
        have hO := HO.out
        refine ⟨hO.os.trans hgr.os, hO.tape.trans hgr.tape, hO.output.trans hgr.output, by rw [size_setRow]; exact Nat.le_trans hgr.size hO.size, fun j hj _ => ?_⟩
        rw [setRow_other _ _ _ _ (by omega), hO.block j (Nat.lt_of_lt_of_le hj hgr.size) (by simp; omega)]
        exact hgr.block j hj (by simp)
end Go.Proofs.Ytefcconbpomedaa
