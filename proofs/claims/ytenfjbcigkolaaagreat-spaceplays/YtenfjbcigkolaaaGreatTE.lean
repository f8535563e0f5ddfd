/- The log on a disk without files: opened, its last mark, a checkpoint. -/
import Derived.Test.YtenfjbcigkolaaaGreatTD
import Derived.Lib.ItoaWalk
namespace Go.Proofs.YtenfjbcigkolaaaGreat
open Go.ChangeShapes Go.WideShapes Go.ChangeAt Go.RowKit Go.Maps
set_option linter.unusedVariables false

set_option maxRecDepth 20000 in
set_option maxHeartbeats 2000000 in
theorem readHead_e (w : World) (d mb : Nat) (room : Int) (h : DE w d mb room) : Calls Tryz.prog 159 #[.pointer (some ⟨d, 0, none⟩)] w fun e w' => e = .returned (.tuple #[.agg wz, .int .i64 0]) ∧ Below w.heap.size w w' := by
  have HB := hide (below_alloc w (.cells wz 245))
  have HD := hide (fun nm => Read_e _ d mb room (h.later HB.out) nm 0 64 ⟨.inl rfl, .inr rfl⟩)
  have HZ := hide (Blk.new w wz 245)
  have HI := hide infoW
  clear h
  go_enter Tryz.func159, Tryz.ntmps159
  go_wp2_with (first
    | (go_at_call 153; (with_reducible refine Calls.mono (HD.out _) ?_); rintro e w0 ⟨rfl, hb⟩; have HB1 := hide (below_trans HB.out hb); have HZ1 := hide (HZ.out.later hb); clear hb)
    | ((with_reducible refine atSt 245 ?_); refine wp_storeB (c := wz) HI.out (by rfl) wz_one HZ1.out _ _ (by rfl) (by rfl) (by rfl) (by rfl) ?_; intro W5 hb5 ho5; have HB5 := hide hb5; have HG5 := hide (below_only1 HB1.out ho5 (Nat.le_refl _)); clear hb5 ho5))
  refine ret_blk2 (v := .int .i64 0) (c := wz) HI.out uW (by rfl) (by rfl) (by rfl) HB5.out ?_
  exact ⟨rfl, HG5.out⟩
theorem frameStart_e (w : World) : Calls Tryz.prog 160 #[.int .i64 1] w fun e w' => e = .returned (.int .i64 64) ∧ w = w' := by
  go_enter Tryz.func160, Tryz.ntmps160
  go_wp2
  go_ret
  exact ⟨rfl, rfl⟩
set_option maxHeartbeats 4000000 in
set_option maxRecDepth 20000 in
theorem open_e (w : World) (d mb : Nat) (room : Int) (h : DE w d mb room) :
    Calls Tryz.prog 120 #[.pointer (some ⟨d, 0, none⟩)] w fun e w' => e = .returned (.tuple #[.agg #[.pointer (some ⟨d, 0, none⟩), .string ⟨#[]⟩, .int .i64 0], .int .i64 0]) ∧ Below w.heap.size w w' := by
  have HRh := hide (fun V (hg : Below w.heap.size w V) => readHead_e V d mb room (h.later hg))
  have HRt := hide (fun nm V (hg : Below w.heap.size w V) => Read_e V d mb room (h.later hg) nm 64 0 ⟨.inr rfl, .inl rfl⟩)
  have HWh := hide (fun V => whole_e V d)
  have HFs := hide frameStart_e
  have HI4 := hide infoW
  clear h
  go_enter Tryz.func120, Tryz.ntmps120
  go_upto_region 1 with fail
  go_name_world W0 hW0
  have HG0 : Hid (Below w.heap.size w W0) := by show Below _ _ W0; rw [← hW0]; exact below_alloc _ _
  have HS0 : Hid (Blk W0 w.heap.size #[.pointer none, .string ⟨#[]⟩, .int .i64 0] 194) := by show Blk _ _ _ _; rw [← hW0]; exact Blk.new _ _ _
  clear hW0
  have HI93 := hide infoG
  go_upto_region 4 with (first
    | (go_at_call 159; (with_reducible refine Calls.mono (HRh.out _ HG0.out) ?_); rintro e w1 ⟨rfl, hg⟩; have HG1 := hide (below_trans HG0.out hg); have HS1 := hide (HS0.out.later hg); have HN1 := hide (Blk.new w1 wz 245); clear hg)
    | ((with_reducible refine atSt 245 ?_); refine wp_storeB (c := wz) HI4.out (by rfl) wz_one HN1.out _ _ (by rfl) (by rfl) (by rfl) (by rfl) ?_; intro W2 hb2 ho2; have HB2 := hide hb2; have HG2 := hide (below_only1 (below_trans HG1.out (below_alloc _ _)) ho2 HG1.out.size); have HS2 := hide ((HS1.out.later (below_alloc _ _)).only ho2 (by have := HS1.out.lt; simp; omega)); clear hb2 ho2))
  have d0 : W2.cell? ⟨w1.heap.size, 0, none⟩ = some (Value.int .u32 0) := HB2.out.cell 0
  have d1 : W2.cell? ⟨w1.heap.size, 1, none⟩ = some (Value.int .u32 0) := HB2.out.cell 1
  have d2 : W2.cell? ⟨w1.heap.size, 2, none⟩ = some (Value.int .u32 0) := HB2.out.cell 2
  have d3 : W2.cell? ⟨w1.heap.size, 3, none⟩ = some (Value.int .u32 0) := HB2.out.cell 3
  have HN2 := hide (Blk.new W2 #[.pointer none, .string ⟨#[]⟩, .int .i64 0] 194)
  go_upto_region 7 with (first
    | ((with_reducible refine atSt 194 ?_); refine wp_storeB (c := #[.pointer (some ⟨d, 0, none⟩), .string ⟨#[]⟩, .int .i64 0]) HI93.out (by rfl) lg_one HN2.out _ _ (by rfl) (by rfl) (by rfl) (by rfl) ?_; intro W3 hb3 ho3; have HB3 := hide hb3; have HG3 := hide (below_only1 (below_trans HG2.out (below_alloc _ _)) ho3 HG2.out.size); have HS3 := hide ((HS2.out.later (below_alloc _ _)).only ho3 (by have := HS2.out.lt; simp; omega)); clear hb3 ho3))
  simp only [Act.put]
  clear d0 d1 d2 d3
  have HLt : Hid (w.heap.size < W2.heap.size) := HS2.out.lt
  have HB3d : Hid (Blk W3.drew W2.heap.size #[.pointer (some ⟨d, 0, none⟩), .string ⟨#[]⟩, .int .i64 0] 194) := HB3.out
  have HG3d : Hid (Below w.heap.size w W3.drew) := below_trans HG3.out (below_drew _)
  have HS0c : Hid (W3.drew.cell? ⟨W2.heap.size, 2, none⟩ = some (Value.int .i64 0)) := HB3d.out.cell 2
  go_region_held3 (fun V => V.cell? ⟨W2.heap.size, 2, none⟩ = some (Value.int .i64 0)) (first | with_reducible exact HS0c.out | with_reducible exact HS4c.out | with_reducible exact HS5c.out) (first
    | (go_at_call 160; (with_reducible refine Calls.mono (HFs.out _) ?_); rintro e w4 ⟨rfl, rfl⟩)
    | (go_at_call 153; (with_reducible refine Calls.mono (HRt.out _ _ HG3d.out) ?_); rintro e W4 ⟨rfl, hg⟩; have HB4 := hide (HB3d.out.later hg); have HG4 := hide (below_trans HG3d.out hg); have HS4 := hide (HS3.out.later (below_trans (below_drew _) hg)); have HS4c := hide ((HB4.out.cell 2).trans (show _ = some (Value.int .i64 0) from rfl)); have HB5 : Hid (Blk (W4.setCell ⟨W2.heap.size, 1, none⟩ (.string ⟨#[]⟩)) W2.heap.size #[.pointer (some ⟨d, 0, none⟩), .string ⟨#[]⟩, .int .i64 0] 194) := HB4.out.set 1 (.string ⟨#[]⟩); have HS5c := hide ((HB5.out.cell 2).trans (show _ = some (Value.int .i64 0) from rfl)); have q1 := (HB4.out.cell 1).trans (show _ = some (Value.string ⟨#[]⟩) from rfl); have f1 := HB4.out.frozen 1; clear hg))
  all_goals
    have HG5 := hide (below_only1 HG4.out (Only.setCell W4 ⟨W2.heap.size, 1, none⟩ (.string ⟨#[]⟩)) (by have := HLt.out; show w.heap.size ≤ W2.heap.size; omega))
    have HS5 := hide (HS4.out.only (Only.setCell W4 ⟨W2.heap.size, 1, none⟩ (.string ⟨#[]⟩)) (by have := HLt.out; simp; omega))
    clear q1 f1
    generalize W4.setCell ⟨W2.heap.size, 1, none⟩ (.string ⟨#[]⟩) = W5 at HB5 HG5 HS5 ⊢
    go_wp2_with (first
      | ((with_reducible refine atLd 194 ?_); refine wp_loadB (c := #[.pointer (some ⟨d, 0, none⟩), .string ⟨#[]⟩, .int .i64 0]) HI93.out uG HB5.out _ (by rfl) (by rfl) (by rfl) ?_)
      | ((with_reducible refine atLd 194 ?_); refine wp_loadB (c := #[.pointer (some ⟨d, 0, none⟩), .string ⟨#[]⟩, .int .i64 0]) HI93.out uG HB6.out _ (by rfl) (by rfl) (by rfl) ?_)
      | (go_at_call 161; (with_reducible refine Calls.mono (HWh.out _) ?_); rintro e W6 ⟨rfl, hb⟩; have HB6 := hide (HB5.out.later hb); have HG6 := hide (below_trans HG5.out hb); have HS6 := hide (HS5.out.later hb); clear hb)
      | ((with_reducible refine atSt 194 ?_); refine wp_storeB (c := #[.pointer (some ⟨d, 0, none⟩), .string ⟨#[]⟩, .int .i64 0]) HI93.out (by rfl) lg_one HS6.out _ _ (by rfl) (by rfl) (by rfl) (by rfl) ?_; intro W7 hb7 ho7; have HB7 := hide hb7; have HG7 := hide (below_only1 HG6.out ho7 (by omega)); clear hb7 ho7))
    refine ret_blk2 (v := .int .i64 0) (c := #[.pointer (some ⟨d, 0, none⟩), .string ⟨#[]⟩, .int .i64 0]) HI93.out uG (by rfl) (by rfl) (by rfl) HB7.out ?_
    exact ⟨rfl, HG7.out⟩
set_option maxRecDepth 20000 in
theorem mark_e (w : World) (d mb : Nat) (room : Int) (h : DE w d mb room) : Calls Tryz.prog 55 #[.pointer (some ⟨d, 0, none⟩)] w fun e w' => e = .returned (.tuple #[.int .i64 0, .int .i64 0]) ∧ Below w.heap.size w w' := by
  have HO := hide (open_e w d mb room h)
  have HZ := hide (fun V => Blk.new V #[.pointer none, .string ⟨#[]⟩, .int .i64 0] 194)
  have HI93 := hide infoG
  clear h
  go_enter Tryz.func55, Tryz.ntmps55
  go_wp2_with (first
    | (go_at_call 120; (with_reducible refine Calls.mono HO.out ?_); rintro e w1 ⟨rfl, hg⟩; have HG1 := hide hg; clear hg)
    | ((with_reducible refine atSt 194 ?_); refine wp_storeB (c := #[.pointer (some ⟨d, 0, none⟩), .string ⟨#[]⟩, .int .i64 0]) HI93.out (by rfl) lg_one (HZ.out _) _ _ (by rfl) (by rfl) (by rfl) (by rfl) ?_; intro W6 hb6 ho6; have c2 := (Blk.cell hb6 2).trans (show _ = some (Value.int .i64 0) from rfl); have HG6 := hide (below_only1 (below_trans HG1.out (below_alloc _ _)) ho6 HG1.out.size); clear hb6 ho6))
  go_ret2
  exact ⟨rfl, HG6.out⟩
theorem lcount_e (w : World) (d mb : Nat) (room : Int) (h : DE w d mb room) : Calls Tryz.prog 122 #[.agg #[.pointer (some ⟨d, 0, none⟩), .string ⟨#[]⟩, .int .i64 0], .int .i64 0] w fun e w' => e = .returned (.tuple #[.int .i64 0, .bool true]) ∧ Below w.heap.size w w' := by
  have HB := hide (below_alloc w (.cells #[.pointer (some ⟨d, 0, none⟩), .string ⟨#[]⟩, .int .i64 0] 194))
  have HC := hide (jcount_e _ d mb room (h.later HB.out))
  clear h
  go_enter Tryz.func122, Tryz.ntmps122
  go_wp2_with (go_at_call 162; (with_reducible refine Calls.mono HC.out ?_); rintro e w1 ⟨rfl, hb⟩; have HB1 := hide (below_trans HB.out hb); clear hb)
  go_ret2
  exact ⟨rfl, HB1.out⟩
set_option maxRecDepth 20000 in
theorem checkpoint_e (w : World) (d mb : Nat) (room : Int) (h : DE w d mb room) : Calls Tryz.prog 58 #[.pointer (some ⟨d, 0, none⟩), .int .i64 0] w fun e w' => e = .returned (.int .i64 0) ∧ Below w.heap.size w w' := by
  have HO := hide (open_e w d mb room h)
  have HC := hide (fun V (hb : Below w.heap.size w V) => lcount_e V d mb room (h.later hb))
  have HZ := hide (fun V => Blk.new V #[.pointer none, .string ⟨#[]⟩, .int .i64 0] 194)
  have HI93 := hide infoG
  clear h
  go_enter Tryz.func58, Tryz.ntmps58
  go_wp2_with (first
    | (go_at_call 120; (with_reducible refine Calls.mono HO.out ?_); rintro e w1 ⟨rfl, hg⟩; have HG1 := hide hg; clear hg)
    | ((with_reducible refine atSt 194 ?_); refine wp_storeB (c := #[.pointer (some ⟨d, 0, none⟩), .string ⟨#[]⟩, .int .i64 0]) HI93.out (by rfl) lg_one (HZ.out _) _ _ (by rfl) (by rfl) (by rfl) (by rfl) ?_; intro W6 hb6 ho6; have HB6 := hide hb6; have HG6 := hide (below_only1 (below_trans HG1.out (below_alloc _ _)) ho6 HG1.out.size); clear hb6 ho6)
    | ((with_reducible refine atLd 194 ?_); refine wp_loadB (c := #[.pointer (some ⟨d, 0, none⟩), .string ⟨#[]⟩, .int .i64 0]) HI93.out uG HB6.out _ (by rfl) (by rfl) (by rfl) ?_)
    | (go_at_call 122; (with_reducible refine Calls.mono (HC.out _ HG6.out) ?_); rintro e w7 ⟨rfl, hg⟩; have HG7 := hide (below_trans HG6.out hg); clear hg))
  go_ret
  exact ⟨rfl, HG7.out⟩
end Go.Proofs.YtenfjbcigkolaaaGreat
