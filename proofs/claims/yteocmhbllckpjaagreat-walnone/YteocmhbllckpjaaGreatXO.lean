/- Without a disk. -/
/- The walk of WalNone. -/
import Derived.Test.YteocmhbllckpjaaGreatXJ
import Derived.Test.YteocmhbllckpjaaGreatXM
namespace Go.Proofs.YteocmhbllckpjaaGreat
open Go.ChangeShapes Go.WideShapes Go.ChangeAt Go.RowKit
open Go.ChangeMaps (setBlock)
set_option linter.unusedVariables false

theorem read_nil (w : World) (nm : ByteArray) (a n : Int) : Calls Tryz.prog 12 #[.pointer none, .string nm, .int .i64 a, .int .i64 n] w fun e w' => e = .returned (.tuple #[.string ⟨#[]⟩, .int .i64 1]) ∧ w = w' := by
  go_enter Tryz.func12, Tryz.ntmps12
  go_wp2_with (go_at_call 38; (with_reducible refine Calls.mono (refusal_nil _) ?_); rintro e w0 ⟨rfl, rfl⟩)
  go_ret2
  exact ⟨rfl, rfl⟩

set_option maxHeartbeats 2000000 in
set_option maxRecDepth 20000 in
theorem readHead_nil (w : World) : Calls Tryz.prog 80 #[.pointer none] w fun e w' => e = .returned (.tuple #[.agg #[.int .u32 0, .int .u32 0, .int .u32 0, .int .u32 0], .int .i64 1]) ∧ w.grownBy w' none := by
  have HR := hideJ (fun V => read_nil V nmJ 0 64)
  have HG := hideJ (World.grownBy_alloc w (.cells #[.int .u32 0, .int .u32 0, .int .u32 0, .int .u32 0] 159) none)
  have HZ := hideJ (alloc_new w (.cells #[.int .u32 0, .int .u32 0, .int .u32 0, .int .u32 0] 159))
  have HI := hideJ info40s
  go_enter Tryz.func80, Tryz.ntmps80
  go_wp2_with (first
    | (go_at_call 12; (with_reducible refine Calls.mono (HR.out _) ?_); rintro e w0 ⟨rfl, rfl⟩)
    | ((with_reducible refine at63S ?_); refine wp_storeB (c := #[.int .u32 0, .int .u32 0, .int .u32 0, .int .u32 0]) HI.out (by rfl) four_one HZ.out _ _ (by rfl) (by rfl) (by rfl) (by rfl) ?_; intro W5 hb5 ho5; have HB5 := hideJ hb5; have HG5 := hideJ (grown_only HG.out ho5 (Nat.le_refl _)); clear hb5 ho5))
  refine ret_pair (c := #[.int .u32 0, .int .u32 0, .int .u32 0, .int .u32 0]) HI.out u63 (by rfl) (by rfl) (by rfl) HB5.out ?_
  exact ⟨rfl, HG5.out⟩

set_option maxHeartbeats 2000000 in
set_option maxRecDepth 20000 in
theorem open_nil (w : World) : Calls Tryz.prog 42 #[.pointer none] w fun e w' => e = .returned (.tuple #[.agg #[.pointer none, .string ⟨#[]⟩, .int .i64 0], .int .i64 1]) ∧ w.grownBy w' none := by
  have HR := hideJ (fun V => readHead_nil V)
  have HG := hideJ (World.grownBy_alloc w (.cells #[.pointer none, .string ⟨#[]⟩, .int .i64 0] 93) none)
  have HZ := hideJ (alloc_new w (.cells #[.pointer none, .string ⟨#[]⟩, .int .i64 0] 93))
  have HN := hideJ (fun V => alloc_new V (.cells #[.int .u32 0, .int .u32 0, .int .u32 0, .int .u32 0] 159))
  have HI := hideJ info40s
  have HI93 := hideJ info93
  go_enter Tryz.func42, Tryz.ntmps42
  go_wp2_with (first
    | (go_at_call 80; (with_reducible refine Calls.mono (HR.out _) ?_); rintro e w1 ⟨rfl, hg⟩; have HG1 := hideJ (grown_trans' HG.out hg); have HZ1 := hideJ (Blk.grown HZ.out hg); clear hg)
    | ((with_reducible refine at63S ?_); refine wp_storeB (c := #[.int .u32 0, .int .u32 0, .int .u32 0, .int .u32 0]) HI.out (by rfl) four_one (HN.out _) _ _ (by rfl) (by rfl) (by rfl) (by rfl) ?_; intro W5 hb5 ho5; have HG5 := hideJ (grown_only (grown_trans' HG1.out (World.grownBy_alloc _ _ _)) ho5 HG1.out.size); have HZ5 := hideJ (Blk.allocO HZ1.out ho5); clear hb5 ho5)
    | ((with_reducible refine at93S ?_); refine wp_storeB (c := #[.pointer none, .string ⟨#[]⟩, .int .i64 0]) HI93.out (by rfl) three_one HZ5.out _ _ (by rfl) (by rfl) (by rfl) (by rfl) ?_; intro W6 hb6 ho6; have HB6 := hideJ hb6; have HG6 := hideJ (grown_only HG5.out ho6 (Nat.le_refl _)); clear hb6 ho6))
  refine ret_pair (c := #[.pointer none, .string ⟨#[]⟩, .int .i64 0]) HI93.out u93 (by rfl) (by rfl) (by rfl) HB6.out ?_
  exact ⟨rfl, HG6.out⟩

set_option maxHeartbeats 2000000 in
set_option maxRecDepth 20000 in
theorem mark_nil (w : World) : Calls Tryz.prog 16 #[.pointer none] w fun e w' => e = .returned (.tuple #[.int .i64 0, .int .i64 1]) ∧ w.grownBy w' none := by
  have HO := hideJ (fun V => open_nil V)
  have HZ := hideJ (fun V => alloc_new V (.cells #[.pointer none, .string ⟨#[]⟩, .int .i64 0] 93))
  have HI93 := hideJ info93
  go_enter Tryz.func16, Tryz.ntmps16
  go_wp2_with (first
    | (go_at_call 42; (with_reducible refine Calls.mono (HO.out _) ?_); rintro e w1 ⟨rfl, hg⟩; have HG1 := hideJ hg; clear hg)
    | ((with_reducible refine at93S ?_); refine wp_storeB (c := #[.pointer none, .string ⟨#[]⟩, .int .i64 0]) HI93.out (by rfl) three_one (HZ.out _) _ _ (by rfl) (by rfl) (by rfl) (by rfl) ?_; intro W6 hb6 ho6; have c2 := (Blk.cell hb6 2).trans (show _ = some (Value.int .i64 0) from rfl); have HG6 := hideJ (grown_only (grown_trans' HG1.out (World.grownBy_alloc _ _ _)) ho6 HG1.out.size); clear hb6 ho6))
  go_ret2
  exact ⟨rfl, HG6.out⟩

set_option maxHeartbeats 2000000 in
set_option maxRecDepth 20000 in
theorem marks_nil (w : World) : Calls Tryz.prog 17 #[.pointer none] w fun e w' => e = .returned (.tuple #[.slice none 0 0, .int .i64 1]) ∧ w.grownBy w' none := by
  have HO := hideJ (fun V => open_nil V)
  have HZ := hideJ (fun V => alloc_new V (.cells #[.pointer none, .string ⟨#[]⟩, .int .i64 0] 93))
  have HI93 := hideJ info93
  go_enter Tryz.func17, Tryz.ntmps17
  go_wp2_with (first
    | (go_at_call 42; (with_reducible refine Calls.mono (HO.out _) ?_); rintro e w1 ⟨rfl, hg⟩; have HG1 := hideJ hg; clear hg)
    | ((with_reducible refine at93S ?_); refine wp_storeB (c := #[.pointer none, .string ⟨#[]⟩, .int .i64 0]) HI93.out (by rfl) three_one (HZ.out _) _ _ (by rfl) (by rfl) (by rfl) (by rfl) ?_; intro W6 hb6 ho6; have c2 := (Blk.cell hb6 2).trans (show _ = some (Value.int .i64 0) from rfl); have HG6 := hideJ (grown_only (grown_trans' HG1.out (World.grownBy_alloc _ _ _)) ho6 HG1.out.size); clear hb6 ho6))
  go_ret2
  exact ⟨rfl, HG6.out⟩

set_option maxHeartbeats 2000000 in
set_option maxRecDepth 20000 in
theorem countX_nil (w : World) (m : Int) : Calls Tryz.prog 18 #[.pointer none, .int .i64 m] w fun e w' => e = .returned (.tuple #[.int .i64 0, .int .i64 1]) ∧ w.grownBy w' none := by
  have HO := hideJ (fun V => open_nil V)
  have HZ := hideJ (fun V => alloc_new V (.cells #[.pointer none, .string ⟨#[]⟩, .int .i64 0] 93))
  have HI93 := hideJ info93
  go_enter Tryz.func18, Tryz.ntmps18
  go_wp2_with (first
    | (go_at_call 42; (with_reducible refine Calls.mono (HO.out _) ?_); rintro e w1 ⟨rfl, hg⟩; have HG1 := hideJ hg; clear hg)
    | ((with_reducible refine at93S ?_); refine wp_storeB (c := #[.pointer none, .string ⟨#[]⟩, .int .i64 0]) HI93.out (by rfl) three_one (HZ.out _) _ _ (by rfl) (by rfl) (by rfl) (by rfl) ?_; intro W6 hb6 ho6; have c2 := (Blk.cell hb6 2).trans (show _ = some (Value.int .i64 0) from rfl); have HG6 := hideJ (grown_only (grown_trans' HG1.out (World.grownBy_alloc _ _ _)) ho6 HG1.out.size); clear hb6 ho6))
  go_ret2
  exact ⟨rfl, HG6.out⟩

set_option maxHeartbeats 2000000 in
set_option maxRecDepth 20000 in
theorem commitX_nil (w : World) (c : Int) (p : Option Addr) (n cap : Nat) : Calls Tryz.prog 20 #[.pointer none, .int .i64 c, .slice p n cap] w fun e w' => e = .returned (.tuple #[.int .i64 0, .int .i64 1]) ∧ w.grownBy w' none := by
  have HO := hideJ (fun V => open_nil V)
  have HZ := hideJ (fun V => alloc_new V (.cells #[.pointer none, .string ⟨#[]⟩, .int .i64 0] 93))
  have HI93 := hideJ info93
  go_enter Tryz.func20, Tryz.ntmps20
  go_wp2_with (first
    | (go_at_call 42; (with_reducible refine Calls.mono (HO.out _) ?_); rintro e w1 ⟨rfl, hg⟩; have HG1 := hideJ hg; clear hg)
    | ((with_reducible refine at93S ?_); refine wp_storeB (c := #[.pointer none, .string ⟨#[]⟩, .int .i64 0]) HI93.out (by rfl) three_one (HZ.out _) _ _ (by rfl) (by rfl) (by rfl) (by rfl) ?_; intro W6 hb6 ho6; have c2 := (Blk.cell hb6 2).trans (show _ = some (Value.int .i64 0) from rfl); have HG6 := hideJ (grown_only (grown_trans' HG1.out (World.grownBy_alloc _ _ _)) ho6 HG1.out.size); clear hb6 ho6))
  go_ret2
  exact ⟨rfl, HG6.out⟩

set_option maxHeartbeats 2000000 in
set_option maxRecDepth 20000 in
theorem check_nil (w : World) : Calls Tryz.prog 21 #[.pointer none] w fun e w' => e = .returned (.int .i64 1) ∧ w.grownBy w' none := by
  have HO := hideJ (fun V => open_nil V)
  have HZ := hideJ (fun V => alloc_new V (.cells #[.pointer none, .string ⟨#[]⟩, .int .i64 0] 93))
  have HI93 := hideJ info93
  go_enter Tryz.func21, Tryz.ntmps21
  go_wp2_with (first
    | (go_at_call 42; (with_reducible refine Calls.mono (HO.out _) ?_); rintro e w1 ⟨rfl, hg⟩; have HG1 := hideJ hg; clear hg)
    | ((with_reducible refine at93S ?_); refine wp_storeB (c := #[.pointer none, .string ⟨#[]⟩, .int .i64 0]) HI93.out (by rfl) three_one (HZ.out _) _ _ (by rfl) (by rfl) (by rfl) (by rfl) ?_; intro W6 hb6 ho6; have c2 := (Blk.cell hb6 2).trans (show _ = some (Value.int .i64 0) from rfl); have HG6 := hideJ (grown_only (grown_trans' HG1.out (World.grownBy_alloc _ _ _)) ho6 HG1.out.size); clear hb6 ho6))
  go_ret
  exact ⟨rfl, HG6.out⟩

set_option maxHeartbeats 2000000 in
set_option maxRecDepth 20000 in
theorem checkpoint_nil (w : World) (m : Int) : Calls Tryz.prog 22 #[.pointer none, .int .i64 m] w fun e w' => e = .returned (.int .i64 1) ∧ w.grownBy w' none := by
  have HO := hideJ (fun V => open_nil V)
  have HZ := hideJ (fun V => alloc_new V (.cells #[.pointer none, .string ⟨#[]⟩, .int .i64 0] 93))
  have HI93 := hideJ info93
  go_enter Tryz.func22, Tryz.ntmps22
  go_wp2_with (first
    | (go_at_call 42; (with_reducible refine Calls.mono (HO.out _) ?_); rintro e w1 ⟨rfl, hg⟩; have HG1 := hideJ hg; clear hg)
    | ((with_reducible refine at93S ?_); refine wp_storeB (c := #[.pointer none, .string ⟨#[]⟩, .int .i64 0]) HI93.out (by rfl) three_one (HZ.out _) _ _ (by rfl) (by rfl) (by rfl) (by rfl) ?_; intro W6 hb6 ho6; have c2 := (Blk.cell hb6 2).trans (show _ = some (Value.int .i64 0) from rfl); have HG6 := hideJ (grown_only (grown_trans' HG1.out (World.grownBy_alloc _ _ _)) ho6 HG1.out.size); clear hb6 ho6))
  go_ret
  exact ⟨rfl, HG6.out⟩

set_option maxHeartbeats 2000000 in
set_option maxRecDepth 20000 in
theorem pageX_nil (w : World) (m n : Int) : Calls Tryz.prog 19 #[.pointer none, .int .i64 m, .int .i64 n] w fun e w' => e = .returned (.tuple #[.agg (bcs z256).toArray, .int .i64 1]) ∧ w.grownBy w' none := by
  have HO := hideJ (fun V => open_nil V)
  have HZ := hideJ (fun V => alloc_new V (.cells #[.pointer none, .string ⟨#[]⟩, .int .i64 0] 93))
  have HI93 := hideJ info93
  have HN := hideJ (new24 w)
  have HG0 := hideJ (World.grownBy_alloc w (.cells Tryz.zeroCells49 49) none)
  have HI := hideJ (size24 z256_length)
  have HA := hideJ (bytes_all z256)
  have hbu := built24
  go_enter Tryz.func19, Tryz.ntmps19
  go_wp2_with (first
    | (go_at_call 42; (with_reducible refine Calls.mono (HO.out _) ?_); rintro e w1 ⟨rfl, hg⟩; have HG1 := hideJ (grown_trans' HG0.out hg); have HR1 := hideJ (Blk.grown HN.out hg); clear hg)
    | ((with_reducible refine at93S ?_); refine wp_storeB (c := #[.pointer none, .string ⟨#[]⟩, .int .i64 0]) HI93.out (by rfl) three_one (HZ.out _) _ _ (by rfl) (by rfl) (by rfl) (by rfl) ?_; intro W6 hb6 ho6; have HG6 := hideJ (grown_only (grown_trans' HG1.out (World.grownBy_alloc _ _ _)) ho6 HG1.out.size); have HR6 := hideJ (Blk.allocO HR1.out ho6); clear hb6 ho6)
    | ((with_reducible refine at24S ?_); refine wp_storeB (c := (bcs z256).toArray) HI.out (by rfl) HA.out HR6.out _ _ (by rfl) (by rfl) (by rfl) (by rfl) ?_; intro W5 hb5 ho5; have HB5 := hideJ hb5; have HG5 := hideJ (grown_only HG6.out ho5 (Nat.le_refl _)); clear hb5 ho5))
  refine ret_pair HI.out u24 (by rfl) (by rfl) (by rfl) HB5.out ?_
  exact ⟨rfl, HG5.out⟩
end Go.Proofs.YteocmhbllckpjaaGreat

namespace Go.Proofs.YteocmhbllckpjaaGreat
open Go.ChangeShapes Go.WideShapes Go.ChangeAt Go.RowKit
open Go.ChangeMaps (setBlock)
set_option linter.unusedVariables false

set_option maxHeartbeats 4000000 in
set_option maxRecDepth 20000 in
theorem none_walk (w : World) (m n : Int) (p : Option Addr) (len cap : Nat) : Calls Tryz.prog 4 #[.int .i64 m, .int .i64 n, .slice p len cap] w fun e w' => e = .returned (.bool true) ∧ Below w.heap.size w w' := by
  have HM := hideJ mark_nil
  have HMs := hideJ marks_nil
  have HCt := hideJ (fun V => countX_nil V m)
  have HP := hideJ (fun V => pageX_nil V m n)
  have HC := hideJ (fun V => commitX_nil V n p len cap)
  have HCk := hideJ check_nil
  have HCp := hideJ (fun V => checkpoint_nil V m)
  have HA := hideJ (fun V (hg : w.grownBy V none) => Calls.mono (awake_w V) (fun e w' h => (⟨h.1, (grown_below (Nat.le_refl _) hg).trans (h.2.mono hg.size)⟩ : e = .returned (.bool true) ∧ Below w.heap.size w w')))
  have HI := hideJ (size24 z256_length)
  have HAl := hideJ (bytes_all z256)
  have HNn := hideJ new24
  have heq : ∀ V, (Op.equalIn 10000 49 (.agg (bcs z256).toArray) (.agg Tryz.zeroCells49)).run Tryz.prog V = .ok true V := fun V => by
    rw [zc24]
    have := run_equalIn_bytes (P := Tryz.prog) V 9998 49 5 256 Tryz.underlying49 Tryz.underlying5 (fun w => by kernel_rfl) z256 z256 z256_length z256_length
    rw [show (z256 == z256) = true by simp] at this
    exact this
  generalize bcs z256 = cz at HP HI HAl HNn heq
  go_enter Tryz.func4, Tryz.ntmps4
  go_wp2_with (first
    | (go_at_call 16; (with_reducible refine Calls.mono (HM.out _) ?_); rintro e w1 ⟨rfl, hg⟩; have HG1 := hideJ hg; clear hg)
    | (go_at_call 17; (with_reducible refine Calls.mono (HMs.out _) ?_); rintro e w2 ⟨rfl, hg⟩; have HG2 := hideJ (grown_trans' HG1.out hg); clear hg)
    | (go_at_call 18; (with_reducible refine Calls.mono (HCt.out _) ?_); rintro e w3 ⟨rfl, hg⟩; have HG3 := hideJ (grown_trans' HG2.out hg); clear hg)
    | (go_at_call 19; (with_reducible refine Calls.mono (HP.out _) ?_); rintro e w4 ⟨rfl, hg⟩; have HG4 := hideJ (grown_trans' HG3.out hg); clear hg)
    | ((with_reducible refine at24S ?_); refine wp_storeB (c := cz.toArray) HI.out (by rfl) HAl.out (HNn.out _) _ _ (by rfl) (by rfl) (by rfl) (by rfl) ?_; intro W5 hb5 ho5; have HB5 := hideJ hb5; have HG5 := hideJ (grown_trans' HG4.out (grown_only (World.grownBy_alloc _ _ _) ho5 (Nat.le_refl _))); clear hb5 ho5)
    | (go_at_call 20; (with_reducible refine Calls.mono (HC.out _) ?_); rintro e w6 ⟨rfl, hg⟩; have HG6 := hideJ (grown_trans' HG5.out hg); have HB6 := hideJ (Blk.grown HB5.out hg); clear hg)
    | (go_at_call 21; (with_reducible refine Calls.mono (HCk.out _) ?_); rintro e w7 ⟨rfl, hg⟩; have HG7 := hideJ (grown_trans' HG6.out hg); have HB7 := hideJ (Blk.grown HB6.out hg); clear hg)
    | (go_at_call 22; (with_reducible refine Calls.mono (HCp.out _) ?_); rintro e w8 ⟨rfl, hg⟩; have HG8 := hideJ (grown_trans' HG7.out hg); have HB8 := hideJ (Blk.grown HB7.out hg); clear hg)
    | (go_at_call 7; (with_reducible refine Calls.mono (HA.out _ HG8.out) ?_); rintro e w9 ⟨rfl, hg⟩; have HG9 := hideJ hg; clear hg))
  obtain ⟨d, hd, hr⟩ := u24
  have hld := run_loadVar_mid (P := Tryz.prog) w8 w4.heap.size 0 49 cz d (range_of_blk2 HB8.out) hd hr (by have := HI.out; rwa [List.size_toArray] at this)
  refine opwp_load hld (by rfl) (by rfl) ?_
  rename_i hK
  refine hK _ _ ?_
  clear hld hd hr hK
  go_wp2_with (first
    | (go_at_call 7; (with_reducible refine Calls.mono (HA.out _ HG8.out) ?_); rintro e w9 ⟨rfl, hg⟩; have HG9 := hideJ hg; clear hg))
  go_ret
  exact ⟨rfl, HG9.out⟩
end Go.Proofs.YteocmhbllckpjaaGreat
