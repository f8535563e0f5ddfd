/- New of no cells; PageForm's facts. -/
import Derived.Test.YtenfjbcigkolaaaGreatOF
namespace Go.Proofs.YtenfjbcigkolaaaGreat
open Go.ChangeShapes Go.WideShapes Go.ChangeAt Go.RowKit
set_option linter.unusedVariables false

set_option maxRecDepth 20000 in
set_option maxHeartbeats 1000000 in
theorem checkCells_none (p : Option Addr) (cap : Nat) (w : World) :
    Calls Tryz.prog 176 #[.slice p 0 cap] w fun e w' => e = .returned (.int .i64 0) ∧ w = w' := by
  go_enter Tryz.func176, Tryz.ntmps176
  go_wp2
  refine wp_loop_rounds 1 ?_
  rw [rounds_succ]
  go_wp2
  go_ret
  exact ⟨rfl, rfl⟩

set_option maxRecDepth 20000 in
set_option maxHeartbeats 2000000 in
theorem new_nil (k L : Nat) (hk : ¬ 5 < k) (hL : L < 4294967296) (p : Option Addr) (cap : Nat) (S : Nat → ByteArray) (w : World) :
    Calls Tryz.prog 134 #[.int .u8 k, .int .u32 (L : Int), .slice p 0 cap] w fun e w' => (∃ l x, l.length = 256 ∧ NewIs k L 0 S l x ∧ e = .returned (.tuple #[.agg (bc l), .int .i64 x])) ∧ Below w.heap.size w w' := by
  obtain ⟨n, hn0⟩ : ∃ n, n = 0 := ⟨0, rfl⟩
  have hE : cErr n S = 0 := cErr_of (fun i hi => by omega)
  have hn : n ≤ 1000000 := by omega
  have H60 := hide (fun i hi => (cErr_zero hE i hi).2)
  have HZ := hide (PAt.new w zs)
  have HB := hide (new_below w (.cells (bc zs) 32) rfl)
  have HC := hide (checkCells_none p cap (w.alloc (.cells (bc zs) 32)))
  have HE := hide hE
  have hz := zero_page.1
  have l1 : ¬ (5 : Int) < (k : Int) := by omega
  obtain ⟨i, hi, hz0, hsz, hby⟩ := run_info
  obtain ⟨W1, hmk, hown, hgr⟩ := run_make_own (P := Tryz.prog) (w.alloc (.cells (bc zs) 32)) (w.alloc (.cells (bc zs) 32)).heap.size 270 272 i _ 2 Tryz.underlying270 hi hz0 hsz .i64 .i64 n (by rw [hby]; omega) (by simp only [maxLen]; omega) (Nat.le_refl _)
  have hs1 : (w.alloc (.cells (bc zs) 32)).heap.size = w.heap.size + 1 := by simp
  have hG : Below (w.alloc (.cells (bc zs) 32)).heap.size (w.alloc (.cells (bc zs) 32)) W1 := (Below.refl _ _).grown hgr (Nat.le_refl _) (fun k e => by cases e)
  rw [hs1] at hmk hown hG
  have HO := hide hown
  have HG := hide hG
  have HHS := hide hs1
  have HLL := hide hL
  subst hn0
  simp only [Int.natCast_zero] at hmk
  clear hE hi hz0 hsz hby hown hgr hG hs1 hL
  go_enter Tryz.func134, Tryz.ntmps134
  go_wp2_with (first
    | (go_at_call 176; with_reducible refine Calls.mono HC.out ?_; rintro e w1 ⟨rfl, rfl⟩))
  go_loopw [26, 9] (fun iv rv wr => ∃ j : Nat, j ≤ 0 ∧ iv = .int .i64 (j : Int) ∧ rv = .slice (some ⟨w.heap.size + 1, 0,  none⟩) j 0 ∧ wr.ownsRow (w.heap.size + 1) 272 2 (.slice (some ⟨w.heap.size + 1, 0,  none⟩) j 0) j (rcl S j) ∧ Below (w.heap.size + 1) (w.alloc (.cells (bc zs) 32)) wr) (fun iv _ _ => 0 - (intOf iv).toNat)
  case atStart => exact ⟨0, Nat.zero_le _, rfl, rfl, HO.out, HG.out⟩
  case round =>
    obtain ⟨j, hj, rfl, rfl, hown, hbel⟩ := hrel
    have HOj := hide hown
    have HBj := hide hbel
    have HBj' : Hid (Below (w.alloc (.cells (bc zs) 32)).heap.size (w.alloc (.cells (bc zs) 32)) wr) := by rw [HHS.out]; exact hbel
    clear hown hbel
    · obtain rfl : j = 0 := by omega
      obtain ⟨l, hl, x, ⟨hx1, hx2⟩, hj⟩ := joined_new k L (by omega) HLL.out 0 (w.heap.size + 1) 0 S (by omega) H60.out wr (runs_of_own HOj.out)
      have HL := hide hl
      have HX : Hid (NewIs k L 0 S l x) := by
        show NewIs k L 0 S l x
        unfold NewIs
        rw [if_neg hk, if_neg (by rw [HE.out]; simp)]
        split
        · rename_i h; exact hx1 h
        · rename_i h; exact hx2 (by omega)
      have HJ := hide (hj wr (runs_of_own HOj.out))
      have HZj := hide (HZ.out.later HBj'.out)
      have HBn := hide (below_trans HB.out HBj'.out)
      clear hx1 hx2 hj hl
      go_wp2_with (first
        | (go_at_call 178; with_reducible refine Calls.mono HJ.out ?_; rintro e w2 ⟨rfl, hb⟩; have HZ2 := hide (HZj.out.later hb); have HB2 := hide (below_trans HBn.out hb); clear hb)
        | (refine wp_storeP HL.out zs_length HZ2.out _ _ (by rfl) (by rfl) (by rfl) (by rfl) ?_; intro W3 hp hb hk; have HP3 := hide hp; have HB3 := hide (hb _ _ HB2.out (by omega)); clear hp hb hk)
        | (exact ret_page2 Tryz.results134 rfl rfl HL.out HP3.out ⟨⟨l, x, HL.out, HX.out, rfl⟩, HB3.out⟩))
end Go.Proofs.YtenfjbcigkolaaaGreat
